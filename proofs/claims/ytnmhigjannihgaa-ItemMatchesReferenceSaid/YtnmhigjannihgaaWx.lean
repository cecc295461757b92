/- Contracts of the small functions that compute with numbers alone (pick, fold, unfold, zigzag): each returns what the plain function of Wm says, for every argument in its range. Contract of collect: it returns what the plain function dec of Wm says, for every string. Contract of Int: it returns what the plain function intR says, for every string and every offset. Contract of the reference's PutInt: the string of the groups, for every integer in range; the error for every other. Contract of PutInt, whose groups come from a function that is ranged over: the string of the groups, for every integer in range; the error for every other. Contract of PutInt, whose groups come from a function that is ranged over: the string of the groups, for every integer in range; the error for every other. Contracts of PutInt, PutString and String (the program's and the reference's): what the plain functions putR, putS, strR say. -/
import Derived.Test.YtnmhigjannihgaaProg
import Derived.Test.YtnmhigjannihgaaWm
import Derived.WalkKit
import Derived.WalkSpells
import Derived.WalkLawsBesides
import Derived.Lib.Hide
import Derived.Lib.IndexBytes
import Derived.Maps.AppendAt
import Derived.RangeFuncBox
import Derived.RangeFuncNested
import Derived.RangeFuncBound
import Derived.RangeFuncCalls
import Derived.RangeFuncLeaves
import Derived.Shelf.Abstract
import Derived.Shelf.RegionOpen
import Derived.OwnWalkIn
import Derived.TacticsInMore
import Derived.LoopNIn
import Derived.LoopIn
namespace Go.Proofs.Ytnmhigjannihgaa
open Go.RowKit

theorem ret_int' {k : IntKind} {a b : Int} (h : a = b) : Ending.returned (.int k a) = .returned (.int k b) := by rw [h]

def pickZ (c n : Int) : Int := (if c < 0 then -(c + 1) else c) % n
theorem pickZ_bd (c n : Int) (hn : 1 ≤ n) : 0 ≤ pickZ c n ∧ pickZ c n < n := by
  unfold pickZ
  exact ⟨Int.emod_nonneg _ (by omega), Int.emod_lt_of_pos _ (by omega)⟩

set_option maxHeartbeats 400000 in
theorem fold_any (n : Int) (w : World) (h1 : -4611686018427387904 ≤ n) (h2 : n ≤ 4611686018427387903) :
    Calls Try.prog 86 #[.int .i64 n] w fun e w' => e = .returned (.int .u64 (Wm.foldZ n : Nat)) ∧ w = w' := by
  by_cases h : n < 0
  · have hp : ((Wm.foldZ n : Nat) : Int) = 2 * (-n) - 1 := by unfold Wm.foldZ; rw [if_pos h]; omega
    rw [hp]
    go_enter Try.func86, Try.ntmps86
    go_wp2
    go_ret
    exact ⟨ret_int' (by rfl), rfl⟩
  · have hp : ((Wm.foldZ n : Nat) : Int) = 2 * n := by unfold Wm.foldZ; rw [if_neg h]; omega
    rw [hp]
    go_enter Try.func86, Try.ntmps86
    go_wp2
    go_ret
    exact ⟨ret_int' (by rfl), rfl⟩

set_option maxHeartbeats 400000 in
theorem zigzag_any (n : Int) (w : World) (h1 : -4611686018427387904 ≤ n) (h2 : n ≤ 4611686018427387903) :
    Calls Try.prog 72 #[.int .i64 n] w fun e w' => e = .returned (.int .u64 (Wm.foldZ n : Nat)) ∧ w = w' := by
  by_cases h : n < 0
  · have hp : ((Wm.foldZ n : Nat) : Int) = (-n) * 2 - 1 := by unfold Wm.foldZ; rw [if_pos h]; omega
    rw [hp]
    go_enter Try.func72, Try.ntmps72
    go_wp2
    go_ret
    exact ⟨ret_int' (by rfl), rfl⟩
  · have hp : ((Wm.foldZ n : Nat) : Int) = n * 2 := by unfold Wm.foldZ; rw [if_neg h]; omega
    rw [hp]
    go_enter Try.func72, Try.ntmps72
    go_wp2
    go_ret
    exact ⟨ret_int' (by rfl), rfl⟩

set_option maxHeartbeats 400000 in
theorem unfold_any (z : Nat) (w : World) (hz : z < 9223372036854775808) :
    Calls Try.prog 61 #[.int .u64 (z : Int)] w fun e w' => e = .returned (.int .i64 (Wm.unfoldZ z)) ∧ w = w' := by
  by_cases h : z % 2 = 1
  · have hp : Wm.unfoldZ z = -((z / 2 : Nat) : Int) - 1 := by unfold Wm.unfoldZ; rw [if_pos h]
    have hb : (((z : Int) % 2) == 1) = true := by rw [beq_iff_eq]; omega
    rw [hp]
    go_enter Try.func61, Try.ntmps61
    go_wp2
    go_ret
    exact ⟨ret_int' (by omega), rfl⟩
  · have hp : Wm.unfoldZ z = ((z / 2 : Nat) : Int) := by unfold Wm.unfoldZ; rw [if_neg h]
    have hb : (((z : Int) % 2) == 1) = false := by rw [beq_eq_false_iff_ne]; omega
    rw [hp]
    go_enter Try.func61, Try.ntmps61
    go_wp2
    go_ret
    exact ⟨ret_int' (by omega), rfl⟩

end Go.Proofs.Ytnmhigjannihgaa

namespace Go.Proofs.Ytnmhigjannihgaa
open Go.RowKit

theorem and127_u8 (b : Nat) (hb : b < 256) : bits .and .u8 (b : Int) 127 = ((b % 128 : Nat) : Int) := by
  have h : ∀ n : Fin 256, bits .and .u8 ((n.val : Nat) : Int) 127 = ((n.val % 128 : Nat) : Int) := by decide +kernel
  exact h ⟨b, hb⟩
theorem or_disj (k x g : Nat) (hx : x < 128 ^ k) (hk : k < 9) (hg : g < 128) : bits .or .u64 (x : Int) ((g * 128 ^ k : Nat) : Int) = ((x + g * 128 ^ k : Nat) : Int) := by
  have e : 128 ^ k = 2 ^ (7 * k) := by rw [Nat.pow_mul]
  have hle : 128 ^ k ≤ 128 ^ 8 := Nat.pow_le_pow_right (by decide) (by omega)
  have h8 : (128 : Nat) ^ 8 = 72057594037927936 := by decide
  have hg2 : g * 128 ^ k ≤ 127 * 72057594037927936 := Nat.mul_le_mul (by omega) (by omega)
  rw [u64_or _ _ (by omega) (by omega) (by omega) (by omega)]
  simp only [Int.toNat_natCast]
  congr 1
  rw [e] at hx ⊢
  rw [Nat.mul_comm g, Nat.or_comm, ← Nat.two_pow_add_eq_or_of_lt hx, Nat.add_comm]
theorem wrap_shl (k g : Nat) (hk : k < 9) (hg : g < 128) : IntKind.u64.wrap ((g : Int) * 2 ^ (7 * k)) = ((g * 128 ^ k : Nat) : Int) := by
  have e : 128 ^ k = 2 ^ (7 * k) := by rw [Nat.pow_mul]
  have hle : 128 ^ k ≤ 128 ^ 8 := Nat.pow_le_pow_right (by decide) (by omega)
  have h8 : (128 : Nat) ^ 8 = 72057594037927936 := by decide
  have hg2 : g * 128 ^ k ≤ 127 * 72057594037927936 := Nat.mul_le_mul (by omega) (by omega)
  rw [IntKind.wrap_u64]
  have : ((g : Int) * 2 ^ (7 * k)) = ((g * 128 ^ k : Nat) : Int) := by rw [e]; push_cast; rfl
  rw [this]; omega

theorem dec_drop (s : ByteArray) (k x b g y : Nat) (h : k < s.size) (h9 : k < 9) (hb : s[k].toNat = b) (hg : b % 128 = g) (hy : g * 128 ^ k = y) :
    Wm.dec k x (s.data.toList.drop k) = if b < 128 then (if b = 0 ∧ 0 < k then (0, 0) else (x + y, k + 1)) else Wm.dec (k + 1) (x + y) (s.data.toList.drop (k + 1)) := by
  have e : s.data.toList.drop k = s[k] :: s.data.toList.drop (k + 1) := List.drop_eq_getElem_cons (by simpa using h)
  rw [e, Wm.dec, if_neg (by omega), hb, hg, hy]
theorem ret2_int {k1 k2 : IntKind} {a b c d : Int} (h1 : a = b) (h2 : c = d) : Ending.returned (.tuple #[.int k1 a, .int k2 c]) = .returned (.tuple #[.int k1 b, .int k2 d]) := by rw [h1, h2]
theorem lt_pow_succ (k x g y : Nat) (hx : x < 128 ^ k) (hg : g < 128) (hy : g * 128 ^ k = y) : x + y < 128 ^ (k + 1) := by
  subst hy
  rw [Nat.pow_succ]
  have : g * 128 ^ k + 128 ^ k ≤ 128 ^ k * 128 := by
    rw [show g * 128 ^ k + 128 ^ k = (g + 1) * 128 ^ k from by rw [Nat.add_mul, Nat.one_mul], Nat.mul_comm]
    exact Nat.mul_le_mul_left _ (by omega)
  omega

set_option maxRecDepth 100000 in
set_option maxHeartbeats 400000 in
theorem collect_any (s : ByteArray) (w : World) (hs : s.size ≤ maxLen) :
    Calls Try.prog 60 #[.string s] w fun e w' => e = .returned (.tuple #[.int .u64 ((Wm.dec 0 0 s.data.toList).1 : Nat), .int .i64 ((Wm.dec 0 0 s.data.toList).2 : Nat)]) ∧ w = w' := by
  unfold maxLen at hs
  go_enter Try.func60, Try.ntmps60
  go_wp2
  go_loop [4, 5, 6] (fun z i g => ∃ (k x : Nat), k ≤ s.size ∧ k ≤ 9 ∧ x < 128 ^ k ∧ i = .int .i64 k ∧ z = .int .u64 x ∧ Wm.dec 0 0 s.data.toList = Wm.dec k x (s.data.toList.drop k)) (fun _ i _ => s.size - (intOf i).toNat)
  case atStart => exact ⟨0, 0, by omega, by omega, by decide, rfl, rfl, rfl⟩
  case round =>
    obtain ⟨k, x, hk, hk9, hx, rfl, rfl, hd⟩ := hrel
    have HD := Lib.hid hd; clear hd
    have HX := Lib.hid hx; clear hx
    by_cases hlt : k < s.size
    · by_cases h9 : k < 9
      · obtain ⟨b, hb⟩ : ∃ b, s[k].toNat = b := ⟨_, rfl⟩
        have hb2 : b < 256 := by rw [← hb]; exact s[k].toNat_lt
        have ha := and127_u8 b hb2
        obtain ⟨g, hg⟩ : ∃ g, b % 128 = g := ⟨_, rfl⟩
        have hg2 : g < 128 := by omega
        rw [hg] at ha
        have h1 := wrap_shl k g h9 hg2
        have h2 := or_disj k x g HX.out h9 hg2
        obtain ⟨y, hy⟩ : ∃ y, g * 128 ^ k = y := ⟨_, rfl⟩
        rw [hy] at h1 h2
        have HY := Lib.hid hy; clear hy
        have HG := Lib.hid hg; clear hg
        have ht : (7 * (k : Int)).toNat = 7 * k := by omega
        go_wp2
        · go_ret2
          have hk0 : 0 < k := by assumption
          have hg0 : g = 0 := by assumption
          have hlb : (b : Int) < 128 := by assumption
          have e := dec_drop s k x b g y hlt h9 hb HG.out HY.out
          rw [if_pos (by omega), if_pos (by have := HG.out; omega)] at e
          exact ⟨ret2_int (by rw [HD.out, e]; rfl) (by rw [HD.out, e]; rfl), rfl⟩
        · go_ret2
          have hk0 : ¬ 0 < k := by assumption
          have hlb : (b : Int) < 128 := by assumption
          have e := dec_drop s k x b g y hlt h9 hb HG.out HY.out
          rw [if_pos (by omega), if_neg (by omega)] at e
          exact ⟨ret2_int (by rw [HD.out, e]; simp) (by rw [HD.out, e]; simp), rfl⟩
        · go_ret2
          have hg0 : ¬ g = 0 := by assumption
          have hlb : (b : Int) < 128 := by assumption
          have e := dec_drop s k x b g y hlt h9 hb HG.out HY.out
          rw [if_pos (by omega), if_neg (by have := HG.out; omega)] at e
          exact ⟨ret2_int (by rw [HD.out, e]; simp) (by rw [HD.out, e]; simp), rfl⟩
        · have hlb : 128 ≤ (b : Int) := by assumption
          have e := dec_drop s k x b g y hlt h9 hb HG.out HY.out
          rw [if_neg (by omega)] at e
          have hlt2 := lt_pow_succ k x g y HX.out hg2 HY.out
          go_round
          case rel => exact ⟨k + 1, x + y, by omega, by omega, hlt2, by go_num, by go_num, by rw [HD.out, e]⟩
          case measure => simp [intOf]; omega
      · go_wp2
        go_ret2
        have e : Wm.dec k x (s.data.toList.drop k) = (0, 0) := by
          have e : s.data.toList.drop k = s[k] :: s.data.toList.drop (k + 1) := List.drop_eq_getElem_cons (by simpa using hlt)
          rw [e, Wm.dec, if_pos (by omega)]
        exact ⟨ret2_int (by rw [HD.out, e]; rfl) (by rw [HD.out, e]; rfl), rfl⟩
    · go_wp2
      go_ret2
      have e : Wm.dec k x (s.data.toList.drop k) = (0, 0) := by
        rw [List.drop_eq_nil_of_le (by simp; omega)]; rfl
      exact ⟨ret2_int (by rw [HD.out, e]; rfl) (by rw [HD.out, e]; rfl), rfl⟩
end Go.Proofs.Ytnmhigjannihgaa

namespace Go.Proofs.Ytnmhigjannihgaa
open Go.RowKit

def intD (at_ : Int) (d : Nat × Nat) : Int × Int × Int :=
  if d.2 = 0 ∨ 9223372036854775806 < d.1 then (0, 0, 10) else (Wm.unfoldZ d.1, at_ + d.2, 0)
def intR (l : List UInt8) (at_ : Int) : Int × Int × Int :=
  if at_ < 0 ∨ (l.length : Int) < at_ then (0, 0, 2) else intD at_ (Wm.dec 0 0 (l.drop at_.toNat))
def tup3 (r : Int × Int × Int) : Value := .tuple #[.int .i64 r.1, .int .i64 r.2.1, .int .i64 r.2.2]

set_option maxRecDepth 100000 in
set_option maxHeartbeats 400000 in
theorem int_any (s : ByteArray) (at_ : Int) (w : World) (hs : s.size ≤ maxLen) (ha1 : -9223372036854775808 ≤ at_) (ha2 : at_ ≤ 9223372036854775807) :
    Calls Try.prog 36 #[.string s, .int .i64 at_] w fun e w' => e = .returned (tup3 (intR s.data.toList at_)) ∧ w = w' := by
  unfold maxLen at hs
  by_cases h0 : at_ < 0
  · have hr : intR s.data.toList at_ = (0, 0, 2) := by unfold intR; rw [if_pos (Or.inl h0)]
    rw [hr]
    go_enter Try.func36, Try.ntmps36
    go_wp2
    go_ret3
    exact ⟨rfl, rfl⟩
  by_cases h1 : (s.size : Int) < at_
  · have hr : intR s.data.toList at_ = (0, 0, 2) := by unfold intR; rw [if_pos (Or.inr (by simpa using h1))]
    rw [hr]
    go_enter Try.func36, Try.ntmps36
    go_wp2
    go_ret3
    exact ⟨rfl, rfl⟩
  obtain ⟨a, rfl⟩ := Int.eq_ofNat_of_zero_le (by omega : 0 ≤ at_)
  have hr : intR s.data.toList a = intD a (Wm.dec 0 0 (s.data.toList.drop a)) := by
    unfold intR
    rw [if_neg (by simp; omega)]
    rfl
  rw [hr]
  have hx : (s.extract a s.size).data.toList = s.data.toList.drop a := Lib.extract_to_end s a
  have hsz : (s.extract a s.size).size ≤ maxLen := by rw [ByteArray.size_extract]; unfold maxLen; omega
  have hcol := fun w => collect_any (s.extract a s.size) w hsz
  rw [hx] at hcol
  obtain ⟨z, k, hd⟩ : ∃ z k, Wm.dec 0 0 (s.data.toList.drop a) = (z, k) := ⟨_, _, rfl⟩
  rw [hd] at hcol ⊢
  have hf : 0 < k → z < 9223372036854775808 ∧ k + a ≤ s.size ∧ k ≤ 9 := fun hk => by
    obtain ⟨h1, h2, h3⟩ := Wm.dec_some0 _ z k hd hk
    refine ⟨h1, ?_, by have := Wm.enc_le z; omega⟩
    have := congrArg List.length h3
    simp at this; omega
  have hk0 : k = 0 → z = 0 := fun hk => by
    have := Wm.dec_none (s.data.toList.drop a) (by rw [hd]; exact hk)
    rw [hd] at this; simp at this; exact this.1
  have HC := Lib.hid hcol; clear hcol hx hd hr
  by_cases hk : k = 0
  · obtain rfl := hk0 hk
    subst hk
    have hr : intD a (0, 0) = (0, 0, 10) := rfl
    rw [hr]
    clear hr hf hk0
    go_enter Try.func36, Try.ntmps36
    go_wp2_with (go_at_call 60; refine (HC.out _).mono ?_; rintro e w' ⟨rfl, rfl⟩)
    go_ret3
    exact ⟨rfl, rfl⟩
  obtain ⟨hz, hka, hk9⟩ := hf (by omega)
  have hkb : ((k : Int) == 0) = false := by rw [beq_eq_false_iff_ne]; omega
  clear hf hk0
  by_cases hm : 9223372036854775806 < z
  · have hr : intD a (z, k) = (0, 0, 10) := by unfold intD; rw [if_pos (Or.inr hm)]
    rw [hr]
    clear hr
    go_enter Try.func36, Try.ntmps36
    go_wp2_with (go_at_call 60; refine (HC.out _).mono ?_; rintro e w' ⟨rfl, rfl⟩)
    go_ret3
    exact ⟨rfl, rfl⟩
  · have hr : intD a (z, k) = (Wm.unfoldZ z, (a : Int) + k, 0) := by unfold intD; rw [if_neg (by simp; omega)]
    rw [hr]
    clear hr
    go_enter Try.func36, Try.ntmps36
    go_wp2_with (first | (go_at_call 60; refine (HC.out _).mono ?_; rintro e w' ⟨rfl, rfl⟩) | (go_at_call 61; refine (unfold_any _ _ hz).mono ?_; rintro e w' ⟨rfl, rfl⟩))
    go_ret3
    exact ⟨rfl, rfl⟩
end Go.Proofs.Ytnmhigjannihgaa

namespace Go.Proofs.Ytnmhigjannihgaa
open Go.RowKit

theorem Try.infoU8 : (Try.prog.info? 5).map (fun i => (i.zero, i.size, i.bytes)) = some (some (.int .u8 0), 1, 1) := by kernel_rfl

def byteCells (l : List UInt8) : List Value := l.map fun b => Value.int .u8 (b.toNat : Int)
theorem byteCells_snoc (l : List UInt8) (b : UInt8) : byteCells (l ++ [b]) = byteCells l ++ [.int .u8 (b.toNat : Int)] := by simp [byteCells]
theorem byteCells_len (l : List UInt8) : (byteCells l).length = l.length := by simp [byteCells]
theorem own_ge {w : World} {base : Nat} {e : TypeId} {size : Nat} {v : Value} {n : Nat} {xs : List Value} (h : w.ownsRow base e size v n xs) : ∀ k, v.ownBlock = some k → base ≤ k := by
  intro k hk
  rcases h.2 with ⟨rfl, _⟩ | ⟨g, cap, cur, rfl, hb, _⟩
  · simp [Value.ownBlock] at hk
  · simp [Value.ownBlock] at hk; omega
def bs (l : List UInt8) : ByteArray := ⟨l.toArray⟩
abbrev strOf (l : List UInt8) : Value := .string (bs l)
/-- An owned row of bytes reads as a string. -/
theorem own_string {w : World} {base g cap n : Nat} {xs : List Value} (l : List UInt8) (h : w.ownsRow base 5 1 (.slice (some ⟨g, 0, none⟩) n cap) n xs) (hn : l.length = n) (hx : xs = byteCells l) :
    Sem.run Try.prog (Go.convert 95 9 (.slice (some ⟨g, 0, none⟩) n cap)) w = .ok (strOf l) w := by
  subst hn hx
  refine run_convert_bytes_back w 95 9 5 ⟨g, 0, none⟩ cap l Try.underlying95 Try.underlying5 Try.underlying9 fun j hj => ?_
  have := h.cellAt j (by omega)
  rw [show (⟨g, 0, none⟩ : Addr).add j = ⟨g, j, none⟩ from by simp [Addr.add]; omega, this]
  simp [byteCells, List.getElem?_eq_getElem hj]
theorem encF_last (f y : Nat) (h : y < 128) (hf : 0 < f) : Wm.encF f y = [UInt8.ofNat y] := by
  obtain ⟨f, rfl⟩ : ∃ g, f = g + 1 := ⟨f - 1, by omega⟩
  rw [Wm.encF, if_pos h]
theorem encF_more (f y : Nat) (h : ¬ y < 128) (hf : 0 < f) : Wm.encF f y = UInt8.ofNat (y % 128 + 128) :: Wm.encF (f - 1) (y / 128) := by
  obtain ⟨f, rfl⟩ : ∃ g, f = g + 1 := ⟨f - 1, by omega⟩
  rw [Wm.encF, if_neg h]; rfl

set_option maxRecDepth 100000 in
set_option maxHeartbeats 400000 in
theorem refPut_out (n : Int) (w : World) (h : n < -4611686018427387903 ∨ 4611686018427387903 < n) (h1 : -9223372036854775808 ≤ n) (h2 : n ≤ 9223372036854775807) :
    Calls Try.prog 51 #[.int .i64 n] w fun e w' => e = .returned (.tuple #[.string ⟨#[]⟩, .int .i64 10]) ∧ Below w.heap.size w w' := by
  rcases h with h | h
  · go_enter Try.func51, Try.ntmps51
    go_wp2
    go_ret2
    exact ⟨rfl, Below.refl _ _⟩
  · have h' : ¬ n < -4611686018427387903 := by omega
    go_enter Try.func51, Try.ntmps51
    go_wp2
    go_ret2
    exact ⟨rfl, Below.refl _ _⟩

set_option maxRecDepth 100000 in
set_option maxHeartbeats 1000000 in
theorem refPut_in (n : Int) (w : World) (h1 : -4611686018427387903 ≤ n) (h2 : n ≤ 4611686018427387903) :
    Calls Try.prog 51 #[.int .i64 n] w fun e w' => e = .returned (.tuple #[strOf (Wm.enc (Wm.foldZ n)), .int .i64 0]) ∧ Below w.heap.size w w' := by
  have hz := Wm.fold_lt n h1 h2
  have hc := fun w => zigzag_any n w (by omega) (by omega)
  obtain ⟨z, hzz⟩ : ∃ z, Wm.foldZ n = z := ⟨_, rfl⟩
  rw [hzz] at hz hc ⊢
  clear hzz
  have HC := Lib.hid hc; clear hc
  obtain ⟨i0, hi, hz0, hz1, hz2⟩ := info_parts Try.infoU8
  go_enter Try.func51, Try.ntmps51
  go_wp2_with (go_at_call 72; refine (HC.out _).mono ?_; rintro e w' ⟨rfl, rfl⟩)
  go_loopw [4, 5] (fun zs v wr => ∃ (l : List UInt8) (y : Nat), l.length ≤ 8 ∧ y < 128 ^ (9 - l.length) ∧ y ≤ 9223372036854775806 ∧ zs = .int .u64 y ∧ wr.ownsRow w.heap.size 5 1 v l.length (byteCells l) ∧ Below w.heap.size w wr ∧ Wm.enc z = l ++ Wm.encF (9 - l.length) y)
    (fun zs _ _ => (intOf zs).toNat)
  case atStart => exact ⟨[], z, by simp, by simp; omega, by omega, rfl, World.ownsRow_nil _ _ _ _, Below.refl _ _, rfl⟩
  case round =>
    obtain ⟨l, y, hl, hy, hy2, rfl, hown, hB, hE⟩ := hrel
    have HE := Lib.hid hE; clear hE
    have HY := Lib.hid hy; clear hy
    have hl2 : l.length + 1 ≤ maxLen := by unfold maxLen; omega
    by_cases hlt : y < 128
    · have hyb : (UInt8.ofNat y).toNat = y := Wm.u8_ofNat y (by omega)
      have HYB := Lib.hid hyb; clear hyb
      go_wp2_with (at_builtin; refine wpList_append_own _ rfl _ _ 95 rfl w.heap.size 5 i0 (.int .u8 0) 1 1 Try.underlying95 hi hz0 hz1 hz2 rfl (by decide) _ _ _ rfl (hown.alloc _) ⟨wr.heap.size, 0, none⟩ 1 1 [.int .u8 (y : Int)] rfl rfl (cell_one_new _ _ _) (by simp [Value.oneCell']) hl2 (by omega) (by have := hB.size; simp; omega) ?_; intro v' w1 hown' hgrow _; obtain ⟨g', cap', rfl⟩ := ownsRow_succ hown'; have hcv := own_string (l ++ [UInt8.ofNat y]) hown' (by simp) (by rw [byteCells_snoc, HYB.out]))
      go_ret2
      have e := encF_last (9 - l.length) y hlt (by omega)
      refine ⟨by rw [HE.out, e]; rfl, ?_⟩
      exact (hB.alloc hB.size _).grown hgrow (by have := hB.size; simp; omega) (own_ge hown)
    · have hyb : (UInt8.ofNat (y % 128 + 128)).toNat = y % 128 + 128 := Wm.u8_ofNat _ (by omega)
      have HYB := Lib.hid hyb; clear hyb
      have hl8 : l.length + 1 ≤ 8 := by
        have := HY.out
        by_cases h8 : l.length = 8
        · rw [h8] at this; simp at this; omega
        · omega
      go_wp2_with (at_builtin; refine wpList_append_own _ rfl _ _ 95 rfl w.heap.size 5 i0 (.int .u8 0) 1 1 Try.underlying95 hi hz0 hz1 hz2 rfl (by decide) _ _ _ rfl (hown.alloc _) ⟨wr.heap.size, 0, none⟩ 1 1 [.int .u8 ((y : Int) % 128 + 128)] rfl rfl (cell_one_new _ _ _) (by simp [Value.oneCell']) hl2 (by omega) (by have := hB.size; simp; omega) ?_; intro v' w1 hown' hgrow _; obtain ⟨g', cap', rfl⟩ := ownsRow_succ hown')
      go_roundw
      case rel =>
        have e := encF_more (9 - l.length) y hlt (by omega)
        refine ⟨l ++ [UInt8.ofNat (y % 128 + 128)], y / 128, by simp; omega, ?_, by omega, rfl, ?_, (hB.alloc hB.size _).grown hgrow (by have := hB.size; simp; omega) (own_ge hown), ?_⟩
        · have := HY.out
          rw [List.length_append, List.length_singleton, Nat.div_lt_iff_lt_mul (by decide)]
          rw [show 9 - l.length = (9 - (l.length + 1)) + 1 from by omega, Nat.pow_succ] at this
          exact this
        · rw [byteCells_snoc, HYB.out, List.length_append]; simpa using hown'
        · rw [HE.out, e, List.length_append, List.length_singleton, List.append_assoc, show 9 - l.length - 1 = 9 - (l.length + 1) from by omega]; rfl
      case measure => simp [intOf]; omega
end Go.Proofs.Ytnmhigjannihgaa

namespace Go.Proofs.Ytnmhigjannihgaa
open Go.RowKit Go.Shelf
attribute [local go_sem] Oper.semAt_some

/-- The groups with whether each is the last one. -/
def gl : Nat → Nat → List (UInt8 × Bool)
  | 0, _ => []
  | f + 1, y => if y < 128 then [(UInt8.ofNat y, true)] else (UInt8.ofNat (y % 128), false) :: gl f (y / 128)
def gb (p : UInt8 × Bool) : UInt8 := if p.2 then p.1 else p.1 ||| 128
theorem gl_bytes : ∀ (f y : Nat), (gl f y).map gb = Wm.encF f y
  | 0, _ => rfl
  | f + 1, y => by
    unfold gl Wm.encF
    by_cases h : y < 128
    · rw [if_pos h, if_pos h]; rfl
    · rw [if_neg h, if_neg h, List.map_cons, gl_bytes f]
      congr 1
      have hh : ∀ n : Fin 128, gb (UInt8.ofNat n.val, false) = UInt8.ofNat (n.val + 128) := by decide +kernel
      exact hh ⟨y % 128, by omega⟩
theorem gl_len (f y : Nat) : (gl f y).length ≤ f := by
  have := congrArg List.length (gl_bytes f y)
  have h2 := Wm.encF_len_le f y
  simp at this; omega
theorem gl_last (f y : Nat) (h : y < 128) (hf : 0 < f) : gl f y = [(UInt8.ofNat y, true)] := by
  obtain ⟨f, rfl⟩ : ∃ g, f = g + 1 := ⟨f - 1, by omega⟩
  rw [gl, if_pos h]
theorem gl_more (f y : Nat) (h : ¬ y < 128) (hf : 0 < f) : gl f y = (UInt8.ofNat (y % 128), false) :: gl (f - 1) (y / 128) := by
  obtain ⟨f, rfl⟩ : ∃ g, f = g + 1 := ⟨f - 1, by omega⟩
  rw [gl, if_neg h]; rfl
abbrev encG (p : UInt8 × Bool) : Array Value := #[.int .u8 (p.1.toNat : Int), .bool p.2]
theorem and127_u64 (y : Nat) (hy : y < 9223372036854775808) : bits .and .u64 (y : Int) 127 = ((y % 128 : Nat) : Int) := by
  rw [u64_and _ _ (by omega) (by omega) (by omega) (by omega)]
  simp only [Int.toNat_natCast]
  congr 1
  have : (127 : Int).toNat = 2 ^ 7 - 1 := by decide
  rw [this, Nat.and_two_pow_sub_one_eq_mod]

set_option maxRecDepth 100000 in
set_option maxHeartbeats 1000000 in
theorem groups1_in (F : Fence) (n : Nat) (h6 : F.fn 93) (hro : F.round = none) (hn : 1 ≤ n) (l Bn n₀ : Nat) (z : Nat) (hz : z < 9223372036854775808) (J Jx : List (UInt8 × Bool) → World → Prop)
    (hY : ∀ pre x W, J pre W → pre.length < 9 → YieldAt F (n - 1) Try.prog l (encG x) W fun e W' =>
      (e = .returned (.bool true) ∧ J (pre ++ [x]) W' ∧ Below n₀ W W') ∨ (e = .returned (.bool false) ∧ Jx (pre ++ [x]) W'))
    (W : World) (hBn : W.cell? ⟨Bn, 0, none⟩ = some (.int .u64 (z : Int))) (h0 : J [] W) :
    CallsIn F n Try.prog 93 #[.func (.yield l) #[] #[], .pointer (some ⟨Bn, 0, none⟩)] W fun e W' => (∃ v, e = .returned v) ∧
      ((∃ ys, ys = gl 9 z ∧ J ys W') ∨ (∃ pre, pre <+: gl 9 z ∧ Jx pre W')) := by
  refine callsIn_of_wp Try.func93 rfl h6 ?_ hro
  simp only [Try.ntmps93, List.size_toArray, List.length_cons, List.length_nil, Nat.reduceAdd, Nat.reduceSub, Array.replicate_succ, Array.replicate_zero, List.push_toArray, List.append_toArray, List.nil_append, List.cons_append]
  gi_wp2
  gi_loopw [3, 4] (fun r _ wr => ∃ (pre : List (UInt8 × Bool)) (y : Nat), pre.length ≤ 8 ∧ y < 9223372036854775808 ∧ r = .int .u64 y ∧ y < 128 ^ (9 - pre.length) ∧ gl 9 z = pre ++ gl (9 - pre.length) y ∧ J pre wr)
    (fun r _ _ => (intOf r).toNat)
  case atStart => exact ⟨[], z, by simp, hz, rfl, by simpa using hz, rfl, h0⟩
  case round =>
    obtain ⟨pre, y, hp, hy, rfl, hlt, hg, hJ⟩ := hrel
    have HL := Lib.hid hlt; clear hlt
    have HG := Lib.hid hg; clear hg
    have e1 := and127_u64 y hy
    by_cases h : y < 128
    · have ey : y % 128 = y := Nat.mod_eq_of_lt h
      rw [ey] at e1
      have hx : (UInt8.ofNat y).toNat = y := Wm.u8_ofNat y (by omega)
      obtain ⟨fn, tmps, assign, body, hyy, hR⟩ := hY pre (UInt8.ofNat y, true) wr hJ (by omega)
      dsimp only [encG] at hyy
      rw [hx] at hyy
      have HX := Lib.hid hx; clear hx ey
      have hb : decide ((y : Int) ≤ 127) = true := by simp; omega
      gi_wp2
      refine hR.mono ?_
      rintro e W3 (⟨rfl, hJ3, hk3⟩ | ⟨rfl, hJx3⟩)
      · gi_wp2
        refine bodyPost_ret (results_none rfl _ _ _) rfl ?_
        exact ⟨⟨_, rfl⟩, .inl ⟨_, by rw [HG.out, gl_last _ _ h (by omega)], hJ3⟩⟩
      · gi_wp2
        refine bodyPost_ret (results_none rfl _ _ _) rfl ?_
        exact ⟨⟨_, rfl⟩, .inr ⟨_, by rw [HG.out, gl_last _ _ h (by omega)]; exact List.prefix_refl _, hJx3⟩⟩
    · obtain ⟨g, hgg⟩ : ∃ g, y % 128 = g := ⟨_, rfl⟩
      have hg2 : g < 128 := by omega
      have hx : (UInt8.ofNat g).toNat = g := Wm.u8_ofNat g (by omega)
      obtain ⟨fn, tmps, assign, body, hyy, hR⟩ := hY pre (UInt8.ofNat g, false) wr hJ (by omega)
      dsimp only [encG] at hyy
      rw [hx] at hyy
      rw [hgg] at e1
      have HX := Lib.hid hx; clear hx
      have HGG := Lib.hid hgg; clear hgg
      have hb : decide ((y : Int) ≤ 127) = false := by simp; omega
      gi_wp2
      refine hR.mono ?_
      rintro e W3 (⟨rfl, hJ3, hk3⟩ | ⟨rfl, hJx3⟩)
      · gi_wp2
        go_roundw
        case rel =>
          have h8 : pre.length + 1 ≤ 8 := by
            have := HL.out
            by_cases h8 : pre.length = 8
            · rw [h8] at this; simp at this; omega
            · omega
          have hx2 : 9 - pre.length - 1 = 9 - (pre.length + 1) := by omega
          refine ⟨pre ++ [(UInt8.ofNat g, false)], y / 128, by simp; omega, by omega, by go_num, ?_, ?_, hJ3⟩
          · have := HL.out
            rw [List.length_append, List.length_singleton, Nat.div_lt_iff_lt_mul (by decide)]
            rw [show 9 - pre.length = (9 - (pre.length + 1)) + 1 from by omega, Nat.pow_succ] at this
            exact this
          · rw [HG.out, gl_more _ _ h (by omega), HGG.out, List.length_append, List.length_singleton, List.append_assoc, hx2]; rfl
        case measure => simp [intOf]; omega
      · gi_wp2
        refine bodyPost_ret (results_none rfl _ _ _) rfl ?_
        refine ⟨⟨_, rfl⟩, .inr ⟨_, ?_, hJx3⟩⟩
        rw [HG.out, gl_more _ _ h (by omega), HGG.out]
        exact ⟨gl (9 - pre.length - 1) (y / 128), by simp⟩
end Go.Proofs.Ytnmhigjannihgaa

namespace Go.Proofs.Ytnmhigjannihgaa
open Go.RowKit Go.Shelf
attribute [local go_sem] Oper.semAt_some

theorem groups_in (F : Fence) (n : Nat) (h5 : F.fn 85) (hro : F.round = none) (z : Int) (w : World) :
    CallsIn F n Try.prog 85 #[.int .u64 z] w fun e w' => e = .returned (.func (.func 93) #[] #[.pointer (some ⟨w.heap.size, 0, none⟩)]) ∧ w' = w.alloc (.cells #[.int .u64 z] 81) := by
  refine callsIn_of_wp Try.func85 rfl h5 ?_ hro
  try simp only [Try.ntmps85, List.size_toArray, List.length_cons, List.length_nil, Nat.reduceAdd, Nat.reduceSub, Array.replicate_succ, Array.replicate_zero, List.push_toArray, List.append_toArray, List.nil_append, List.cons_append]
  gi_wp2
  go_ret
  exact ⟨rfl, rfl⟩

theorem groups_stops (F : Fence) (n : Nat) (h6 : F.fn 93) (hro : F.round = none) (hn : 1 ≤ n) (Bn n₀ z : Nat) (hz : z < 9223372036854775808) (w : World) (hBn : Bn < w.heap.size)
    (hc : w.cell? ⟨Bn, 0, none⟩ = some (.int .u64 (z : Int))) :
    SeqStopsK F n Try.prog 93 #[.pointer (some ⟨Bn, 0, none⟩)] encG (Below n₀) (fun ys => ys = gl 9 z) (fun pre => pre <+: gl 9 z) 9 w := fun l J Jx W hW _ _ hY h0 =>
  groups1_in F n h6 hro hn l Bn n₀ z hz J Jx hY W ((hW.cell (p := ⟨Bn, 0, none⟩) hBn).trans hc) h0

def nine : Array Value := #[.int .u8 0, .int .u8 0, .int .u8 0, .int .u8 0, .int .u8 0, .int .u8 0, .int .u8 0, .int .u8 0, .int .u8 0]
theorem own_nine (w : World) (o : Obj) : ((w.alloc (.cells nine 5)).alloc o).ownsRow w.heap.size 5 1 (.slice (some ⟨w.heap.size, 0, none⟩) 0 9) 0 [] := by
  refine ⟨rfl, .inr ⟨w.heap.size, 9, nine, rfl, Nat.le_refl _, ?_, by omega, by unfold maxLen; omega, rfl, rfl⟩⟩
  exact ((World.grownBy_alloc (w.alloc _) o none).block w.heap.size (by simp) (by simp)).trans (World.alloc_heap_new w _)
theorem or128_u8 (b : UInt8) : bits .or .u8 (b.toNat : Int) 128 = (((b ||| 128 : UInt8).toNat : Nat) : Int) := by
  have h : ∀ n : Fin 256, bits .or .u8 ((n.val : Nat) : Int) 128 = (((UInt8.ofNat n.val ||| 128 : UInt8).toNat : Nat) : Int) := by decide +kernel
  have := h ⟨b.toNat, b.toNat_lt⟩
  simpa using this

set_option maxRecDepth 100000 in
set_option maxHeartbeats 400000 in
theorem put_in (n : Int) (w : World) (h1 : -4611686018427387903 ≤ n) (h2 : n ≤ 4611686018427387903) :
    Calls Try.prog 69 #[.int .i64 n] w fun e w' => e = .returned (.tuple #[strOf (Wm.enc (Wm.foldZ n)), .int .i64 0]) ∧ Below w.heap.size w w' := by
  have hz := Wm.fold_lt n h1 h2
  have hc := fun w => fold_any n w (by omega) (by omega)
  obtain ⟨z, hzz⟩ : ∃ z, Wm.foldZ n = z := ⟨_, rfl⟩
  rw [hzz] at hz hc ⊢
  clear hzz
  have HC := Lib.hid hc; clear hc
  obtain ⟨i0, hi, hz0, hz1, hz2⟩ := info_parts Try.infoU8
  have hmk : ∀ w, (Instr.makeSlice 95 (.int .i64 0) (.int .i64 9)).run Try.prog w = .ok (.slice (some ⟨w.heap.size, 0, none⟩) 0 9) (w.alloc (.cells nine 5)) := fun _ => by kernel_rfl
  have hb1 : decide (n < -4611686018427387903) = false := by simp; omega
  have hb2 : decide (4611686018427387903 < n) = false := by simp; omega
  refine (callsIn_wide (n := 3)).1 ?_
  refine callsIn_of_wp_marks Try.func69 rfl trivial ?_ rfl
  simp only [Try.ntmps69, List.size_toArray, List.length_cons, List.length_nil, Nat.reduceAdd, Nat.reduceSub, Array.replicate_succ, Array.replicate_zero, List.push_toArray, List.append_toArray, List.nil_append, List.cons_append]
  gi_wp2_with (first | (refine ⟨trivial, ?_⟩; gi_at_call 86; refine (callsIn_wide.2 (HC.out _)).mono ?_; rintro e w' ⟨rfl, rfl⟩) | (refine ⟨trivial, ?_⟩; gi_at_call 85; refine (groups_in Fence.wide _ trivial rfl _ _).mono ?_; rintro e w' ⟨rfl, rfl⟩))
  have bO := Boxed.new (w.alloc (.cells nine 5)) 95 (.slice (some ⟨w.heap.size, 0, none⟩) 0 9)
  have bN := Boxed.new ((w.alloc (.cells nine 5)).alloc (.cells #[.slice (some ⟨w.heap.size, 0, none⟩) 0 9] 95)) 81 (.int .u64 (z : Int))
  rw [World.size_alloc] at bO
  rw [World.size_alloc, World.size_alloc] at bN
  have hB0 : Below w.heap.size w (((w.alloc (.cells nine 5)).alloc (.cells #[.slice (some ⟨w.heap.size, 0, none⟩) 0 9] 95)).alloc (.cells #[.int .u64 (z : Int)] 81)) :=
    (((Below.refl _ w).alloc (Nat.le_refl _) _).alloc (by simp) _).alloc (by simp; omega) _
  refine wpIn_rangeFunc_ownG (F := Fence.wide) rfl (by decide) (gf := 93) (lb := #[.pointer (some ⟨w.heap.size + 1 + 1, 0, none⟩)]) rfl trivial (enters_of Try.func93 (by kernel_rfl) rfl)
    (groups_stops Fence.wide (3 - 1) trivial rfl (by decide) (w.heap.size + 1 + 1) w.heap.size z (by omega) _ (by simp) bN.cell) belowK_t (belowK_b (by simp; omega)) (Below.refl _ _) (fun _ => rfl)
    (fun pre W => (∃ v, Boxed W (w.heap.size + 1) 95 v ∧ W.ownsRow w.heap.size 5 1 v pre.length (byteCells (pre.map gb)) ∧ True) ∧ Below w.heap.size w W)
    (fun _ _ _ => False)
    (OwnFrom.and (Own.from (holdsRow_own w.heap.size (w.heap.size + 1) 95 5 1 (fun pre : List (UInt8 × Bool) => pre.length) (fun pre : List (UInt8 × Bool) => byteCells (pre.map gb)) (fun _ _ => True)) _) (ownFrom_below (Nat.le_refl _) (by simp; omega)))
    (fun _ _ _ _ _ hs _ _ => hs)
    ⟨⟨_, bO.alloc _, (own_nine w _).alloc _, trivial⟩, hB0⟩
    (fun x => { tmps := #[.int .i64 n, undef, .string ⟨#[]⟩, .int .i64 0, .pointer (some ⟨w.heap.size + 1, 0, none⟩), .int .u8 (x.1.toNat : Int), .bool x.2, .int .i64 n, .bool false, .bool false, .int .i64 n, .bool false, .bool false, .slice (some ⟨w.heap.size, 0, none⟩) 0 9, .int .i64 n, .int .u64 (z : Int), .func (.func 93) #[] #[.pointer (some ⟨w.heap.size + 1 + 1, 0, none⟩)], .int .u8 (x.1.toNat : Int), .bool x.2, undef, undef, undef, undef, undef, undef, undef, undef, undef, undef], defers := [] }) ?assign ?body ?done ?stop
  case assign =>
    intro l x W K hK
    gi_wp2
    exact hK
  case body =>
    rintro l pre ⟨b, last⟩ W ⟨⟨v, hv, hrow, _⟩, hB⟩ hlt
    have hc := hv.cell
    have hbb := b.toNat_lt
    cases last
    · have hor := or128_u8 b
      obtain ⟨q, hq⟩ : ∃ q, (b ||| 128 : UInt8).toNat = q := ⟨_, rfl⟩
      rw [hq] at hor
      have HQ := Lib.hid hq; clear hq
      gi_wp2_with (gi_at_builtin; refine wpListIn_append_own _ rfl _ _ 95 rfl w.heap.size 5 i0 (.int .u8 0) 1 1 Try.underlying95 hi hz0 hz1 hz2 rfl (by decide) _ _ _ rfl (hrow.alloc _) ⟨W.heap.size, 0, none⟩ 1 1 [.int .u8 (q : Int)] rfl rfl (cell_one_new _ _ _) (by simp [Value.oneCell']) (by unfold maxLen; omega) (by omega) (by have := hB.size; simp; omega) ?_; intro v' w1 hown' hgrow _; obtain ⟨g', cap', rfl⟩ := ownsRow_succ hown'; obtain ⟨hv1, hv2, hr2, hk2, hb2⟩ := hv.appended (by decide) hrow hB.size (by omega) hown' hgrow; have hc1 := hv1.cell; have hf1 := hv1.frozen)
      exact ⟨hk2.from _, hb2, ⟨_, hv2, by rw [List.map_append, List.map_singleton, byteCells_snoc, List.length_append, List.length_singleton, show gb (b, false) = b ||| 128 from rfl, HQ.out]; exact hr2, trivial⟩, hB.trans hb2⟩
    · gi_wp2_with (gi_at_builtin; refine wpListIn_append_own _ rfl _ _ 95 rfl w.heap.size 5 i0 (.int .u8 0) 1 1 Try.underlying95 hi hz0 hz1 hz2 rfl (by decide) _ _ _ rfl (hrow.alloc _) ⟨W.heap.size, 0, none⟩ 1 1 [.int .u8 (b.toNat : Int)] rfl rfl (cell_one_new _ _ _) (by simp [Value.oneCell']) (by unfold maxLen; omega) (by omega) (by have := hB.size; simp; omega) ?_; intro v' w1 hown' hgrow _; obtain ⟨g', cap', rfl⟩ := ownsRow_succ hown'; obtain ⟨hv1, hv2, hr2, hk2, hb2⟩ := hv.appended (by decide) hrow hB.size (by omega) hown' hgrow; have hc1 := hv1.cell; have hf1 := hv1.frozen)
      exact ⟨hk2.from _, hb2, ⟨_, hv2, by rw [List.map_append, List.map_singleton, byteCells_snoc, List.length_append, List.length_singleton, show gb (b, true) = b from rfl]; exact hr2, trivial⟩, hB.trans hb2⟩
  case done =>
    rintro D ys W hD rfl ⟨⟨v, hv, hrow, _⟩, hB⟩ hK
    have hc := hv.cell
    have hl : ∃ m, (gl 9 z).length = m + 1 := by
      have := congrArg List.length (gl_bytes 9 z)
      have h2 := Wm.enc_pos z
      unfold Wm.enc at h2
      rw [List.length_map] at this
      exact ⟨(gl 9 z).length - 1, by omega⟩
    obtain ⟨m, hm⟩ := hl
    have hrow2 := hrow
    rw [hm] at hrow2
    obtain ⟨g', cap', rfl⟩ := ownsRow_succ hrow2
    have hcv := own_string (Wm.enc z) hrow2 (by have := congrArg List.length (gl_bytes 9 z); rw [List.length_map] at this; unfold Wm.enc; omega) (by rw [gl_bytes]; rfl)
    clear hrow2 hm
    gi_wp2
    refine ⟨by simp, .inl ⟨_, _, rfl, run_takeDeferred hK, ?_⟩⟩
    exact ⟨_, results_tmp2 rfl _ _ _, rfl, hB.trans (belowK_b (w := w) (Nat.le_refl _) W D _ _ (by simp at hD; omega) hK rfl rfl)⟩
  case stop =>
    rintro D c pre W _ _ h _
    exact h.elim
end Go.Proofs.Ytnmhigjannihgaa

namespace Go.Proofs.Ytnmhigjannihgaa
open Go.RowKit

theorem bs_size (l : List UInt8) : (bs l).size = l.length := by simp [bs, ByteArray.size]
theorem bs_list (l : List UInt8) : (bs l).data.toList = l := by simp [bs]
theorem bs_of (s : ByteArray) : bs s.data.toList = s := by simp [bs]
theorem bs_append (a b : List UInt8) : bs a ++ bs b = bs (a ++ b) := by simp [bs, ByteArray.mk_append_mk]
theorem bs_extract (s : ByteArray) (a b : Nat) : s.extract a b = bs ((s.data.toList.drop a).take (b - a)) := by
  rw [← Lib.extract_data, bs_of]
theorem bs_inj (a b : List UInt8) : bs a = bs b ↔ a = b := ⟨fun h => by rw [← bs_list a, h, bs_list], fun h => by rw [h]⟩

/-- What PutInt returns. -/
def putR (n : Int) : List UInt8 × Int := if n < -4611686018427387903 ∨ 4611686018427387903 < n then ([], 10) else (Wm.enc (Wm.foldZ n), 0)
def putS (l : List UInt8) : List UInt8 × Int := if 65536 < l.length then ([], 10) else (Wm.enc (Wm.foldZ l.length) ++ l, 0)
def tupS (r : List UInt8 × Int) : Value := .tuple #[.string (bs r.1), .int .i64 r.2]

set_option maxRecDepth 100000 in
set_option maxHeartbeats 400000 in
theorem put_out (n : Int) (w : World) (h : n < -4611686018427387903 ∨ 4611686018427387903 < n) (h1 : -9223372036854775808 ≤ n) (h2 : n ≤ 9223372036854775807) :
    Calls Try.prog 69 #[.int .i64 n] w fun e w' => e = .returned (.tuple #[.string ⟨#[]⟩, .int .i64 10]) ∧ Below w.heap.size w w' := by
  rcases h with h | h
  · go_enter Try.func69, Try.ntmps69
    go_wp2
    go_ret2
    exact ⟨rfl, Below.refl _ _⟩
  · have h' : ¬ n < -4611686018427387903 := by omega
    go_enter Try.func69, Try.ntmps69
    go_wp2
    go_ret2
    exact ⟨rfl, Below.refl _ _⟩
theorem put_any (n : Int) (w : World) (h1 : -9223372036854775808 ≤ n) (h2 : n ≤ 9223372036854775807) :
    Calls Try.prog 69 #[.int .i64 n] w fun e w' => e = .returned (tupS (putR n)) ∧ Below w.heap.size w w' := by
  by_cases h : n < -4611686018427387903 ∨ 4611686018427387903 < n
  · refine (put_out n w h h1 h2).mono fun e w' ⟨he, hw⟩ => ⟨?_, hw⟩
    rw [he]; unfold putR; rw [if_pos h]; rfl
  · refine (put_in n w (by omega) (by omega)).mono fun e w' ⟨he, hw⟩ => ⟨?_, hw⟩
    rw [he]; unfold putR; rw [if_neg h]; rfl
theorem refPut_any (n : Int) (w : World) (h1 : -9223372036854775808 ≤ n) (h2 : n ≤ 9223372036854775807) :
    Calls Try.prog 51 #[.int .i64 n] w fun e w' => e = .returned (tupS (putR n)) ∧ Below w.heap.size w w' := by
  by_cases h : n < -4611686018427387903 ∨ 4611686018427387903 < n
  · refine (refPut_out n w h h1 h2).mono fun e w' ⟨he, hw⟩ => ⟨?_, hw⟩
    rw [he]; unfold putR; rw [if_pos h]; rfl
  · refine (refPut_in n w (by omega) (by omega)).mono fun e w' ⟨he, hw⟩ => ⟨?_, hw⟩
    rw [he]; unfold putR; rw [if_neg h]; rfl

end Go.Proofs.Ytnmhigjannihgaa
