/- Contract of PutInt, whose groups come from a function that is ranged over: the string of the groups, for every integer in range; the error for every other. -/
import Derived.RangeFuncNested
import Derived.RangeFuncBound
import Derived.RangeFuncCalls
import Derived.RangeFuncLeaves
import Derived.Shelf.Abstract
import Derived.Shelf.RegionOpen
import Derived.WalkKit
import Derived.OwnWalkIn
import Derived.TacticsInMore
import Derived.LoopNIn
import Derived.LoopIn
import Derived.Test.YtihifbhfgdifeaaDoorWe
namespace Go.Proofs.YtihifbhfgdifeaaDoor
open Go.RowKit Go.Shelf
attribute [local go_sem] Oper.semAt_some

/-- The groups with whether each is the last one. -/
def gl : Nat → Nat → List (UInt8 × Bool)
  | 0, _ => []
  | f + 1, y => if y < 128 then [(UInt8.ofNat y, true)] else (UInt8.ofNat (y % 128), false) :: gl f (y / 128)
def gb (p : UInt8 × Bool) : UInt8 := if p.2 then p.1 else p.1 ||| 128
theorem gl_bytes : ∀ (f y : Nat), (gl f y).map gb = Wm.encF f y
  | 0, _ => rfl
  | f + 1, y => by
    unfold gl Wm.encF
    by_cases h : y < 128
    · rw [if_pos h, if_pos h]; rfl
    · rw [if_neg h, if_neg h, List.map_cons, gl_bytes f]
      congr 1
      have hh : ∀ n : Fin 128, gb (UInt8.ofNat n.val, false) = UInt8.ofNat (n.val + 128) := by decide +kernel
      exact hh ⟨y % 128, by omega⟩
theorem gl_len (f y : Nat) : (gl f y).length ≤ f := by
  have := congrArg List.length (gl_bytes f y)
  have h2 := Wm.encF_len_le f y
  simp at this; omega
theorem gl_last (f y : Nat) (h : y < 128) (hf : 0 < f) : gl f y = [(UInt8.ofNat y, true)] := by
  obtain ⟨f, rfl⟩ : ∃ g, f = g + 1 := ⟨f - 1, by omega⟩
  rw [gl, if_pos h]
theorem gl_more (f y : Nat) (h : ¬ y < 128) (hf : 0 < f) : gl f y = (UInt8.ofNat (y % 128), false) :: gl (f - 1) (y / 128) := by
  obtain ⟨f, rfl⟩ : ∃ g, f = g + 1 := ⟨f - 1, by omega⟩
  rw [gl, if_neg h]; rfl
abbrev encG (p : UInt8 × Bool) : Array Value := #[.int .u8 (p.1.toNat : Int), .bool p.2]
theorem and127_u64 (y : Nat) (hy : y < 9223372036854775808) : bits .and .u64 (y : Int) 127 = ((y % 128 : Nat) : Int) := by
  rw [u64_and _ _ (by omega) (by omega) (by omega) (by omega)]
  simp only [Int.toNat_natCast]
  congr 1
  have : (127 : Int).toNat = 2 ^ 7 - 1 := by decide
  rw [this, Nat.and_two_pow_sub_one_eq_mod]

set_option maxRecDepth 100000 in
set_option maxHeartbeats 1000000 in
theorem groups1_in (F : Fence) (n : Nat) (h6 : F.fn 29) (hro : F.round = none) (hn : 1 ≤ n) (l Bn n₀ : Nat) (z : Nat) (hz : z < 9223372036854775808) (J Jx : List (UInt8 × Bool) → World → Prop)
    (hY : ∀ pre x W, J pre W → pre.length < 9 → YieldAt F (n - 1) Tryd.prog l (encG x) W fun e W' =>
      (e = .returned (.bool true) ∧ J (pre ++ [x]) W' ∧ Below n₀ W W') ∨ (e = .returned (.bool false) ∧ Jx (pre ++ [x]) W'))
    (W : World) (hBn : W.cell? ⟨Bn, 0, none⟩ = some (.int .u64 (z : Int))) (h0 : J [] W) :
    CallsIn F n Tryd.prog 29 #[.func (.yield l) #[] #[], .pointer (some ⟨Bn, 0, none⟩)] W fun e W' => (∃ v, e = .returned v) ∧
      ((∃ ys, ys = gl 9 z ∧ J ys W') ∨ (∃ pre, pre <+: gl 9 z ∧ Jx pre W')) := by
  refine callsIn_of_wp Tryd.func29 rfl h6 ?_ hro
  simp only [Tryd.ntmps29, List.size_toArray, List.length_cons, List.length_nil, Nat.reduceAdd, Nat.reduceSub, Array.replicate_succ, Array.replicate_zero, List.push_toArray, List.append_toArray, List.nil_append, List.cons_append]
  gi_wp2
  gi_loopw [3, 4] (fun r _ wr => ∃ (pre : List (UInt8 × Bool)) (y : Nat), pre.length ≤ 8 ∧ y < 9223372036854775808 ∧ r = .int .u64 y ∧ y < 128 ^ (9 - pre.length) ∧ gl 9 z = pre ++ gl (9 - pre.length) y ∧ J pre wr)
    (fun r _ _ => (intOf r).toNat)
  case atStart => exact ⟨[], z, by simp, hz, rfl, by simpa using hz, rfl, h0⟩
  case round =>
    obtain ⟨pre, y, hp, hy, rfl, hlt, hg, hJ⟩ := hrel
    have HL := Lib.hid hlt; clear hlt
    have HG := Lib.hid hg; clear hg
    have e1 := and127_u64 y hy
    by_cases h : y < 128
    · have ey : y % 128 = y := Nat.mod_eq_of_lt h
      rw [ey] at e1
      have hx : (UInt8.ofNat y).toNat = y := Wm.u8_ofNat y (by omega)
      obtain ⟨fn, tmps, assign, body, hyy, hR⟩ := hY pre (UInt8.ofNat y, true) wr hJ (by omega)
      dsimp only [encG] at hyy
      rw [hx] at hyy
      have HX := Lib.hid hx; clear hx ey
      have hb : decide ((y : Int) ≤ 127) = true := by simp; omega
      gi_wp2
      refine hR.mono ?_
      rintro e W3 (⟨rfl, hJ3, hk3⟩ | ⟨rfl, hJx3⟩)
      · gi_wp2
        refine bodyPost_ret (results_none rfl _ _ _) rfl ?_
        exact ⟨⟨_, rfl⟩, .inl ⟨_, by rw [HG.out, gl_last _ _ h (by omega)], hJ3⟩⟩
      · gi_wp2
        refine bodyPost_ret (results_none rfl _ _ _) rfl ?_
        exact ⟨⟨_, rfl⟩, .inr ⟨_, by rw [HG.out, gl_last _ _ h (by omega)]; exact List.prefix_refl _, hJx3⟩⟩
    · obtain ⟨g, hgg⟩ : ∃ g, y % 128 = g := ⟨_, rfl⟩
      have hg2 : g < 128 := by omega
      have hx : (UInt8.ofNat g).toNat = g := Wm.u8_ofNat g (by omega)
      obtain ⟨fn, tmps, assign, body, hyy, hR⟩ := hY pre (UInt8.ofNat g, false) wr hJ (by omega)
      dsimp only [encG] at hyy
      rw [hx] at hyy
      rw [hgg] at e1
      have HX := Lib.hid hx; clear hx
      have HGG := Lib.hid hgg; clear hgg
      have hb : decide ((y : Int) ≤ 127) = false := by simp; omega
      gi_wp2
      refine hR.mono ?_
      rintro e W3 (⟨rfl, hJ3, hk3⟩ | ⟨rfl, hJx3⟩)
      · gi_wp2
        go_roundw
        case rel =>
          have h8 : pre.length + 1 ≤ 8 := by
            have := HL.out
            by_cases h8 : pre.length = 8
            · rw [h8] at this; simp at this; omega
            · omega
          have hx2 : 9 - pre.length - 1 = 9 - (pre.length + 1) := by omega
          refine ⟨pre ++ [(UInt8.ofNat g, false)], y / 128, by simp; omega, by omega, by go_num, ?_, ?_, hJ3⟩
          · have := HL.out
            rw [List.length_append, List.length_singleton, Nat.div_lt_iff_lt_mul (by decide)]
            rw [show 9 - pre.length = (9 - (pre.length + 1)) + 1 from by omega, Nat.pow_succ] at this
            exact this
          · rw [HG.out, gl_more _ _ h (by omega), HGG.out, List.length_append, List.length_singleton, List.append_assoc, hx2]; rfl
        case measure => simp [intOf]; omega
      · gi_wp2
        refine bodyPost_ret (results_none rfl _ _ _) rfl ?_
        refine ⟨⟨_, rfl⟩, .inr ⟨_, ?_, hJx3⟩⟩
        rw [HG.out, gl_more _ _ h (by omega), HGG.out]
        exact ⟨gl (9 - pre.length - 1) (y / 128), by simp⟩
end Go.Proofs.YtihifbhfgdifeaaDoor
