/- The reference's group, its walk. Both sides take the same groups. The reference's Parse: what its loop knows, and what a round does to it. The reference's And, Or and Not. -/
import Derived.Test.YtmfpaankkoaoaaaDoorZr
import Derived.Test.YtmfpaankkoaoaaaDoorVu
import Derived.Test.YtmfpaankkoaoaaaDoorZg
import Derived.StillTailTactics
/- The reference's group, its walk. -/
namespace Go.Proofs.YtmfpaankkoaoaaaDoor
open Go.RowKit Go.Shelf
set_option maxRecDepth 100000 in
set_option maxHeartbeats 16000000 in
theorem rgroup_any (x : ByteArray) (hs : x.size ≤ 200000) (w : World) : Calls Tryd.prog 53 #[.string x] w fun e w' => e = .returned (.tuple #[.int .i64 ((grpR x).1 : Int), .int .i64 ((grpR x).2 : Int)]) ∧ Below w.heap.size w w' := by
  have N0 : Hid (∀ u, Calls Tryd.prog 71 #[.string x, .int .i64 0, .int .u8 32] u fun e w' => e = .returned (.tuple #[.string (prt x 0 32).1, .int .i64 ((prt x 0 32).2 : Int)]) ∧ u = w') := Lib.hid (fun u => rpart_any x (by omega) 0 (Nat.zero_le _) 32 u)
  have HP0 := Lib.hid (show (grpR x).1 = setR drR 44 (prt x 0 32).1 ((prt x 0 32).1.size + 2) 0 0 ∧ (grpR x).2 = setR hrR 32 x (x.size + 2) (prt x 0 32).2 0 from ⟨rfl, rfl⟩)
  have HG := Lib.hid (grpR_le x)
  have hps := prt_size x 0 32
  have hpn := prt_next x 0 32 (Nat.zero_le _)
  obtain ⟨R, hR⟩ : ∃ R, grpR x = R := ⟨_, rfl⟩
  obtain ⟨D, H⟩ := R
  rw [hR] at HP0 HG ⊢
  obtain ⟨PR, hPR⟩ : ∃ PR, prt x 0 32 = PR := ⟨_, rfl⟩
  obtain ⟨p, n0⟩ := PR
  rw [hPR] at N0 HP0 hps hpn
  dsimp only at N0 HP0 hps hpn HG ⊢
  have HSZ := Lib.hid (And.intro hs (And.intro hps hpn))
  have hpz : p.size ≤ 200000 := by omega
  clear hR hPR hs hps hpn
  go_enter Tryd.func53, Tryd.ntmps53
  go_wp2_with (go_at_call 71; (with_reducible refine Calls.mono (N0.out _) ?_); rintro r v1 ⟨rfl, rfl⟩)
  go_loop [4, 7] (fun d i => ∃ S k f : Nat, d = .int .i64 (S : Int) ∧ i = .int .i64 (k : Int) ∧ k ≤ p.size + 1 ∧ S ≤ 127 ∧ Hid (p.size + 1 - k < f ∧ setR drR 44 p f k S = D)) (fun _ i => p.size + 1 - (intOf i).toNat)
  case atStart => exact ⟨0, 0, p.size + 2, rfl, rfl, by omega, by omega, Lib.hid ⟨by omega, HP0.out.1.symm⟩⟩
  case round =>
    obtain ⟨S, k, f0, rfl, rfl, hk, hS, HF⟩ := hrel
    have k0 : (0 : Int) ≤ (k : Int) := by omega
    by_cases hkp : k ≤ p.size
    · have k1 : (k : Int) ≤ (p.size : Int) := by omega
      have N1 : Hid (∀ u, Calls Tryd.prog 71 #[.string p, .int .i64 (k : Int), .int .u8 44] u fun e w' => e = .returned (.tuple #[.string (prt p k 44).1, .int .i64 ((prt p k 44).2 : Int)]) ∧ u = w') := Lib.hid (fun u => rpart_any p (by omega) k hkp 44 u)
      have hqs := prt_size p k 44
      have hqn := prt_next p k 44 hkp
      obtain ⟨f, rfl⟩ : ∃ f, f0 = f + 1 := ⟨f0 - 1, by have := HF.out.1; omega⟩
      have hset := HF.out
      rw [setR, if_pos hkp] at hset
      obtain ⟨PQ, hPQ⟩ : ∃ PQ, prt p k 44 = PQ := ⟨_, rfl⟩
      obtain ⟨Q, n⟩ := PQ
      rw [hPQ] at N1 hqs hqn hset
      dsimp only at N1 hqs hqn hset
      have N2 : Hid (∀ u, Calls Tryd.prog 71 #[.string Q, .int .i64 0, .int .u8 45] u fun e w' => e = .returned (.tuple #[.string (prt Q 0 45).1, .int .i64 ((prt Q 0 45).2 : Int)]) ∧ u = w') := Lib.hid (fun u => rpart_any Q (by omega) 0 (Nat.zero_le _) 45 u)
      have hdr : drR Q = 2 ^ (max (dayM (prt Q 0 45).1).toNat (min 7 ((if (prt Q 0 45).2 ≤ Q.size then dayM (Q.extract (prt Q 0 45).2 Q.size) else dayM (prt Q 0 45).1).toNat + 1))) - 2 ^ (dayM (prt Q 0 45).1).toNat := rfl
      obtain ⟨PB, hPB⟩ : ∃ PB, prt Q 0 45 = PB := ⟨_, rfl⟩
      obtain ⟨B, m⟩ := PB
      rw [hPB] at N2 hdr
      dsimp only at N2 hdr
      have N3 := Lib.hid (fun u => rday_any B u)
      obtain ⟨a, ha, hae⟩ := dayM_nat B
      rw [hae] at N3 hdr
      have HRM := Lib.hid (fun t h => run_more S a t h)
      have HS1 := Lib.hid (fun t (h : t ≤ 7 ∨ t = a) => or_127 hS (two_sub (N := 7) h))
      have HSQ := Lib.hid (or_127 hS (drR_le Q))
      have HNX := Lib.hid (show (k < n ∧ k ≤ p.size) ∧ n ≤ p.size + 1 from ⟨⟨hqn.1, hkp⟩, hqn.2⟩)
      have HSET := Lib.hid (show p.size + 1 - n < f ∧ setR drR 44 p f n (S ||| drR Q) = D from ⟨by omega, hset.2⟩)
      have m0 : (0 : Int) ≤ (m : Int) := by omega
      by_cases hm : m ≤ Q.size
      · have m1 : (m : Int) ≤ (Q.size : Int) := by omega
        have hsl : ∀ w : World, (Instr.slice 9 (.string Q) (some (.int .i64 (m : Int))) none none).run Tryd.prog w = .ok (.string (Q.extract m Q.size)) w := fun w => by
          rw [run_slice_string_l (P := Tryd.prog) w 9 Q Tryd.underlying9 .i64 (m : Int) (by omega) (by omega), Int.toNat_natCast]
        rw [if_pos hm] at hdr
        obtain ⟨E, hE⟩ : ∃ E, Q.extract m Q.size = E := ⟨_, rfl⟩
        simp only [hE] at hsl
        rw [hE] at hdr
        have N4 := Lib.hid (fun u => rday_any E u)
        obtain ⟨l, hl, hle⟩ := dayM_nat E
        rw [hle] at N4 hdr
        have HDR : Hid (drR Q = 2 ^ (max a (min 7 (l + 1))) - 2 ^ a) := Lib.hid hdr
        have l0 : (0 : Int) ≤ (l : Int) := by omega
        have a0 : (0 : Int) ≤ (a : Int) := by omega
        clear hdr hE hle hae hPB hPQ hset hqn hqs hm hl HF
        go_wp2_with (first | (go_at_call 71; (with_reducible refine Calls.mono (N1.out _) ?_); rintro r v1 ⟨rfl, rfl⟩) | (go_at_call 71; (with_reducible refine Calls.mono (N2.out _) ?_); rintro r v1 ⟨rfl, rfl⟩) | (go_at_call 72; (with_reducible refine Calls.mono (N3.out _) ?_); rintro r v1 ⟨rfl, rfl⟩))
        go_loop [4, 13] (fun d j => ∃ t : Nat, a ≤ t ∧ t ≤ 7 ∧ j = .int .i64 (t : Int) ∧ d = .int .i64 ((S ||| (2 ^ t - 2 ^ a) : Nat) : Int) ∧ Hid (t ≤ max a (min 7 (l + 1)))) (fun _ j => 7 - (intOf j).toNat)
        case atStart => exact ⟨a, Nat.le_refl _, ha, rfl, by rw [Nat.sub_self, Nat.or_zero], Lib.hid (by omega)⟩
        case round =>
          obtain ⟨t, hat, ht7, rfl, rfl, HTL⟩ := hrel
          have t0 : (0 : Int) ≤ (t : Int) := by omega
          by_cases htl : t < 7 ∧ t ≤ l
          · have t1 : (t : Int) < 7 := by omega
            have t2 : (t : Int) ≤ (l : Int) := by omega
            have hRM := HRM.out t hat
            have hp7 : (2 : Nat) ^ t ≤ 2 ^ 6 := Nat.pow_le_pow_right (by decide) (by omega)
            have hS1 := HS1.out t (.inl ht7)
            have HT1 := Lib.hid (show t + 1 ≤ max a (min 7 (l + 1)) by omega)
            have HT2 := Lib.hid (show t < 7 ∧ a ≤ t from ⟨htl.1, hat⟩)
            obtain ⟨P, hP⟩ : ∃ P, (2 : Nat) ^ t = P := ⟨_, rfl⟩
            have sh : wrap64 ((2 : Int) ^ t) = (P : Int) := by
              rw [show ((2 : Int) ^ t) = ((2 ^ t : Nat) : Int) by simp, hP]
              exact wrap64_nat _ (by rw [← hP]; exact Nat.lt_of_le_of_lt hp7 (by decide))
            rw [hP] at hRM hp7
            obtain ⟨Z, hZ⟩ : ∃ Z, S ||| (2 ^ (t + 1) - 2 ^ a) = Z := ⟨_, rfl⟩
            have HZ := Lib.hid hZ
            rw [hZ] at hRM
            rw [hP] at hS1 ⊢
            obtain ⟨S2, hS2⟩ : ∃ S2, S ||| (P - 2 ^ a) = S2 := ⟨_, rfl⟩
            rw [hS2] at hRM hS1 ⊢
            have hb := bits_or64 S2 P (Nat.lt_of_le_of_lt hS1 (by decide)) (Nat.lt_of_le_of_lt hp7 (by decide))
            rw [hRM] at hb
            clear hRM hp7 hS1 hP hZ hS2 htl
            go_wp2_with (go_at_call 72; (with_reducible refine Calls.mono (N4.out _) ?_); rintro r v1 ⟨rfl, rfl⟩)
            go_round
            case rel => exact ⟨t + 1, by have := HT2.out; omega, by have := HT2.out; omega, by go_num, by rw [HZ.out], HT1⟩
            case measure => have := HT2.out; simp [intOf]; omega
          · have htm : t = max a (min 7 (l + 1)) := by have := HTL.out; omega
            have HRES := Lib.hid (show S ||| (2 ^ t - 2 ^ a) = S ||| drR Q by rw [HDR.out, htm])
            have hS1 := HSQ.out
            rw [HRES.out]
            obtain ⟨Z, hZ⟩ : ∃ Z, S ||| drR Q = Z := ⟨_, rfl⟩
            rw [hZ] at hS1 HSET ⊢
            have HZ7 := Lib.hid hS1
            by_cases ht : t < 7
            · have t1 : (t : Int) < 7 := by omega
              have t2 : ¬ (t : Int) ≤ (l : Int) := by omega
              clear htl htm hS1 hZ
              go_wp2_with (go_at_call 72; (with_reducible refine Calls.mono (N4.out _) ?_); rintro r v1 ⟨rfl, rfl⟩)
              go_round
              case rel => exact ⟨Z, n, f, rfl, rfl, HNX.out.2, HZ7.out, HSET⟩
              case measure => have := HNX.out; simp [intOf]; omega
            · have t1 : ¬ (t : Int) < 7 := by omega
              clear htl htm hS1 hZ
              go_wp2
              go_round
              case rel => exact ⟨Z, n, f, rfl, rfl, HNX.out.2, HZ7.out, HSET⟩
              case measure => have := HNX.out; simp [intOf]; omega
      · have m1 : ¬ (m : Int) ≤ (Q.size : Int) := by omega
        rw [if_neg hm] at hdr
        have N4 := N3
        obtain ⟨l, hl⟩ : ∃ l, l = a := ⟨_, rfl⟩
        have HDR : Hid (drR Q = 2 ^ (max a (min 7 (l + 1))) - 2 ^ a) := Lib.hid (by rw [hl]; exact hdr)
        have l0 : (0 : Int) ≤ (l : Int) := by omega
        have a0 : (0 : Int) ≤ (a : Int) := by omega
        have N4 : Hid (∀ u, Calls Tryd.prog 72 #[.string B] u fun e w' => e = .returned (.int .i64 (l : Int)) ∧ u = w') := Lib.hid (by rw [hl]; exact N3.out)
        clear hdr hae hPB hPQ hset hqn hqs hm hl HF
        go_wp2_with (first | (go_at_call 71; (with_reducible refine Calls.mono (N1.out _) ?_); rintro r v1 ⟨rfl, rfl⟩) | (go_at_call 71; (with_reducible refine Calls.mono (N2.out _) ?_); rintro r v1 ⟨rfl, rfl⟩) | (go_at_call 72; (with_reducible refine Calls.mono (N3.out _) ?_); rintro r v1 ⟨rfl, rfl⟩))
        go_loop [4, 13] (fun d j => ∃ t : Nat, a ≤ t ∧ t ≤ 7 ∧ j = .int .i64 (t : Int) ∧ d = .int .i64 ((S ||| (2 ^ t - 2 ^ a) : Nat) : Int) ∧ Hid (t ≤ max a (min 7 (l + 1)))) (fun _ j => 7 - (intOf j).toNat)
        case atStart => exact ⟨a, Nat.le_refl _, ha, rfl, by rw [Nat.sub_self, Nat.or_zero], Lib.hid (by omega)⟩
        case round =>
          obtain ⟨t, hat, ht7, rfl, rfl, HTL⟩ := hrel
          have t0 : (0 : Int) ≤ (t : Int) := by omega
          by_cases htl : t < 7 ∧ t ≤ l
          · have t1 : (t : Int) < 7 := by omega
            have t2 : (t : Int) ≤ (l : Int) := by omega
            have hRM := HRM.out t hat
            have hp7 : (2 : Nat) ^ t ≤ 2 ^ 6 := Nat.pow_le_pow_right (by decide) (by omega)
            have hS1 := HS1.out t (.inl ht7)
            have HT1 := Lib.hid (show t + 1 ≤ max a (min 7 (l + 1)) by omega)
            have HT2 := Lib.hid (show t < 7 ∧ a ≤ t from ⟨htl.1, hat⟩)
            obtain ⟨P, hP⟩ : ∃ P, (2 : Nat) ^ t = P := ⟨_, rfl⟩
            have sh : wrap64 ((2 : Int) ^ t) = (P : Int) := by
              rw [show ((2 : Int) ^ t) = ((2 ^ t : Nat) : Int) by simp, hP]
              exact wrap64_nat _ (by rw [← hP]; exact Nat.lt_of_le_of_lt hp7 (by decide))
            rw [hP] at hRM hp7
            obtain ⟨Z, hZ⟩ : ∃ Z, S ||| (2 ^ (t + 1) - 2 ^ a) = Z := ⟨_, rfl⟩
            have HZ := Lib.hid hZ
            rw [hZ] at hRM
            rw [hP] at hS1 ⊢
            obtain ⟨S2, hS2⟩ : ∃ S2, S ||| (P - 2 ^ a) = S2 := ⟨_, rfl⟩
            rw [hS2] at hRM hS1 ⊢
            have hb := bits_or64 S2 P (Nat.lt_of_le_of_lt hS1 (by decide)) (Nat.lt_of_le_of_lt hp7 (by decide))
            rw [hRM] at hb
            clear hRM hp7 hS1 hP hZ hS2 htl
            go_wp2_with (go_at_call 72; (with_reducible refine Calls.mono (N4.out _) ?_); rintro r v1 ⟨rfl, rfl⟩)
            go_round
            case rel => exact ⟨t + 1, by have := HT2.out; omega, by have := HT2.out; omega, by go_num, by rw [HZ.out], HT1⟩
            case measure => have := HT2.out; simp [intOf]; omega
          · have htm : t = max a (min 7 (l + 1)) := by have := HTL.out; omega
            have HRES := Lib.hid (show S ||| (2 ^ t - 2 ^ a) = S ||| drR Q by rw [HDR.out, htm])
            have hS1 := HSQ.out
            rw [HRES.out]
            obtain ⟨Z, hZ⟩ : ∃ Z, S ||| drR Q = Z := ⟨_, rfl⟩
            rw [hZ] at hS1 HSET ⊢
            have HZ7 := Lib.hid hS1
            by_cases ht : t < 7
            · have t1 : (t : Int) < 7 := by omega
              have t2 : ¬ (t : Int) ≤ (l : Int) := by omega
              clear htl htm hS1 hZ
              go_wp2_with (go_at_call 72; (with_reducible refine Calls.mono (N4.out _) ?_); rintro r v1 ⟨rfl, rfl⟩)
              go_round
              case rel => exact ⟨Z, n, f, rfl, rfl, HNX.out.2, HZ7.out, HSET⟩
              case measure => have := HNX.out; simp [intOf]; omega
            · have t1 : ¬ (t : Int) < 7 := by omega
              clear htl htm hS1 hZ
              go_wp2
              go_round
              case rel => exact ⟨Z, n, f, rfl, rfl, HNX.out.2, HZ7.out, HSET⟩
              case measure => have := HNX.out; simp [intOf]; omega
    · have k1 : ¬ (k : Int) ≤ (p.size : Int) := by omega
      have hSD : S = D := (by have := HF.out.2; rw [setR_end _ _ _ _ _ _ (by omega)] at this; exact this)
      have hn0 := HSZ.out.2.2.2
      go_wp2
      subst hSD
      go_loopw [6, 14] (fun i d wr => ∃ T k f : Nat, d = .int .i64 (T : Int) ∧ i = .int .i64 (k : Int) ∧ k ≤ x.size + 1 ∧ T ≤ 16777215 ∧ Hid (x.size + 1 - k < f ∧ setR hrR 32 x f k T = H) ∧ Hid (Below w.heap.size w wr)) (fun i _ _ => x.size + 1 - (intOf i).toNat)
      case atStart => exact ⟨0, n0, x.size + 2, rfl, rfl, hn0, by omega, Lib.hid ⟨by omega, HP0.out.2.symm⟩, Lib.hid (Below.refl _ _)⟩
      case round =>
        clear k0 k1 hkp hk hn0
        obtain ⟨T, k, f0, rfl, rfl, hk, hT, HF, HB⟩ := hrel
        have k0 : (0 : Int) ≤ (k : Int) := by omega
        have hxs := HSZ.out.1
        by_cases hkx : k ≤ x.size
        · have k1 : (k : Int) ≤ (x.size : Int) := by omega
          have N1 : Hid (∀ u, Calls Tryd.prog 71 #[.string x, .int .i64 (k : Int), .int .u8 32] u fun e w' => e = .returned (.tuple #[.string (prt x k 32).1, .int .i64 ((prt x k 32).2 : Int)]) ∧ u = w') := Lib.hid (fun u => rpart_any x (by omega) k hkx 32 u)
          have hqs := prt_size x k 32
          have hqn := prt_next x k 32 hkx
          obtain ⟨f, rfl⟩ : ∃ f, f0 = f + 1 := ⟨f0 - 1, by have := HF.out.1; omega⟩
          have hset := HF.out
          rw [setR, if_pos hkx] at hset
          obtain ⟨PQ, hPQ⟩ : ∃ PQ, prt x k 32 = PQ := ⟨_, rfl⟩
          obtain ⟨Q, n⟩ := PQ
          rw [hPQ] at N1 hqs hqn hset
          dsimp only at N1 hqs hqn hset
          have N2 : Hid (∀ u, Calls Tryd.prog 71 #[.string Q, .int .i64 0, .int .u8 45] u fun e w' => e = .returned (.tuple #[.string (prt Q 0 45).1, .int .i64 ((prt Q 0 45).2 : Int)]) ∧ u = w') := Lib.hid (fun u => rpart_any Q (by omega) 0 (Nat.zero_le _) 45 u)
          have hdr : hrR Q = if (prt Q 0 45).2 ≤ Q.size then 2 ^ (max (valN (prt Q 0 45).1).toNat (min 24 (valN (Q.extract (prt Q 0 45).2 Q.size)).toNat)) - 2 ^ (valN (prt Q 0 45).1).toNat else 0 := rfl
          obtain ⟨PB, hPB⟩ : ∃ PB, prt Q 0 45 = PB := ⟨_, rfl⟩
          obtain ⟨B, m⟩ := PB
          rw [hPB] at N2 hdr
          dsimp only at N2 hdr
          have N3 := Lib.hid (fun u => rvalue_any B u)
          obtain ⟨a, ha, hae⟩ := valN_nat B
          rw [hae] at N3 hdr
          have HRM := Lib.hid (fun t h => run_more T a t h)
          have HS1 := Lib.hid (fun t (h : t ≤ 24 ∨ t = a) => or_24 hT (two_sub (N := 24) h))
          have HSQ := Lib.hid (or_24 hT (hrR_le Q))
          have HNX := Lib.hid (show (k < n ∧ k ≤ x.size) ∧ n ≤ x.size + 1 from ⟨⟨hqn.1, hkx⟩, hqn.2⟩)
          have HSET := Lib.hid (show x.size + 1 - n < f ∧ setR hrR 32 x f n (T ||| hrR Q) = H from ⟨by omega, hset.2⟩)
          have m0 : (0 : Int) ≤ (m : Int) := by omega
          have a0 : (0 : Int) ≤ (a : Int) := by omega
          by_cases hm : m ≤ Q.size
          · have m1 : (m : Int) ≤ (Q.size : Int) := by omega
            have hsl : ∀ w : World, (Instr.slice 9 (.string Q) (some (.int .i64 (m : Int))) none none).run Tryd.prog w = .ok (.string (Q.extract m Q.size)) w := fun w => by
              rw [run_slice_string_l (P := Tryd.prog) w 9 Q Tryd.underlying9 .i64 (m : Int) (by omega) (by omega), Int.toNat_natCast]
            rw [if_pos hm] at hdr
            obtain ⟨E, hE⟩ : ∃ E, Q.extract m Q.size = E := ⟨_, rfl⟩
            simp only [hE] at hsl
            rw [hE] at hdr
            have N4 := Lib.hid (fun u => rvalue_any E u)
            obtain ⟨l, hl, hle⟩ := valN_nat E
            rw [hle] at N4 hdr
            have HDR : Hid (hrR Q = 2 ^ (max a (min 24 l)) - 2 ^ a) := Lib.hid hdr
            have l0 : (0 : Int) ≤ (l : Int) := by omega
            clear hdr hE hle hae hPB hPQ hset hqn hqs hm hl HF hxs hkx
            go_wp2_with (first | (go_at_call 71; (with_reducible refine Calls.mono (N1.out _) ?_); rintro r v1 ⟨rfl, rfl⟩) | (go_at_call 71; (with_reducible refine Calls.mono (N2.out _) ?_); rintro r v1 ⟨rfl, rfl⟩) | (go_at_call 73; (with_reducible refine Calls.mono (N3.out _) ?_); rintro r v1 ⟨rfl, hb⟩; have HB2 := Lib.hid (below_to HB.out hb); clear hb))
            go_loopw [14, 19] (fun d j wr => ∃ t : Nat, a ≤ t ∧ j = .int .i64 (t : Int) ∧ d = .int .i64 ((T ||| (2 ^ t - 2 ^ a) : Nat) : Int) ∧ Hid (t ≤ max a (min 24 l)) ∧ Hid (Below w.heap.size w wr)) (fun _ j _ => 24 - (intOf j).toNat)
            case atStart => exact ⟨a, Nat.le_refl _, rfl, by rw [Nat.sub_self, Nat.or_zero], Lib.hid (by omega), HB2⟩
            case round =>
              clear HB2 HB
              obtain ⟨t, hat, rfl, rfl, HTL, HB⟩ := hrel
              have t0 : (0 : Int) ≤ (t : Int) := by omega
              by_cases htl : t < 24 ∧ t < l
              · have t1 : (t : Int) < 24 := by omega
                have t2 : (t : Int) < (l : Int) := by omega
                have hRM := HRM.out t hat
                have hp7 : (2 : Nat) ^ t ≤ 2 ^ 24 := Nat.pow_le_pow_right (by decide) (by omega)
                have hS1 := HS1.out t (.inl (by omega))
                have HT1 := Lib.hid (show t + 1 ≤ max a (min 24 l) by omega)
                have HT2 := Lib.hid (show t < 24 ∧ a ≤ t from ⟨htl.1, hat⟩)
                obtain ⟨P, hP⟩ : ∃ P, (2 : Nat) ^ t = P := ⟨_, rfl⟩
                have sh : wrap64 ((2 : Int) ^ t) = (P : Int) := by
                  rw [show ((2 : Int) ^ t) = ((2 ^ t : Nat) : Int) by simp, hP]
                  exact wrap64_nat _ (by rw [← hP]; exact Nat.lt_of_le_of_lt hp7 (by decide))
                rw [hP] at hRM hp7
                obtain ⟨Z, hZ⟩ : ∃ Z, T ||| (2 ^ (t + 1) - 2 ^ a) = Z := ⟨_, rfl⟩
                have HZ := Lib.hid hZ
                rw [hZ] at hRM
                rw [hP] at hS1 ⊢
                obtain ⟨S2, hS2⟩ : ∃ S2, T ||| (P - 2 ^ a) = S2 := ⟨_, rfl⟩
                rw [hS2] at hRM hS1 ⊢
                have hb := bits_or64 S2 P (Nat.lt_of_le_of_lt hS1 (by decide)) (Nat.lt_of_le_of_lt hp7 (by decide))
                rw [hRM] at hb
                clear hRM hp7 hS1 hP hZ hS2 htl
                go_wp2_with (go_at_call 73; (with_reducible refine Calls.mono (N4.out _) ?_); rintro r v1 ⟨rfl, hbb⟩; have HB4 := Lib.hid (below_to HB.out hbb); clear hbb)
                go_roundw
                case rel => exact ⟨t + 1, by have := HT2.out; omega, by go_num, by rw [HZ.out], HT1, HB4⟩
                case measure => have := HT2.out; simp [intOf]; omega
              · have htm : t = max a (min 24 l) := by have := HTL.out; omega
                have HRES := Lib.hid (show T ||| (2 ^ t - 2 ^ a) = T ||| hrR Q by rw [HDR.out, htm])
                have hS1 := HSQ.out
                rw [HRES.out]
                obtain ⟨Z, hZ⟩ : ∃ Z, T ||| hrR Q = Z := ⟨_, rfl⟩
                rw [hZ] at hS1 HSET ⊢
                have HZ7 := Lib.hid hS1
                by_cases ht : t < 24
                · have t1 : (t : Int) < 24 := by omega
                  have t2 : ¬ (t : Int) < (l : Int) := by omega
                  clear htl htm hS1 hZ
                  go_wp2_with (go_at_call 73; (with_reducible refine Calls.mono (N4.out _) ?_); rintro r v1 ⟨rfl, hbb⟩; have HB4 := Lib.hid (below_to HB.out hbb); clear hbb)
                  go_roundw
                  case rel => exact ⟨Z, n, f, rfl, rfl, HNX.out.2, HZ7.out, HSET, HB4⟩
                  case measure => have := HNX.out; simp [intOf]; omega
                · have t1 : ¬ (t : Int) < 24 := by omega
                  clear htl htm hS1 hZ
                  go_wp2
                  go_roundw
                  case rel => exact ⟨Z, n, f, rfl, rfl, HNX.out.2, HZ7.out, HSET, HB⟩
                  case measure => have := HNX.out; simp [intOf]; omega
          · have m1 : ¬ (m : Int) ≤ (Q.size : Int) := by omega
            rw [if_neg hm] at hdr
            rw [hdr, Nat.or_zero] at HSET
            clear hdr hae hPB hPQ hset hqn hqs hm HF hxs hkx
            go_wp2_with (first | (go_at_call 71; (with_reducible refine Calls.mono (N1.out _) ?_); rintro r v1 ⟨rfl, rfl⟩) | (go_at_call 71; (with_reducible refine Calls.mono (N2.out _) ?_); rintro r v1 ⟨rfl, rfl⟩))
            go_roundw
            case rel => exact ⟨T, n, f, rfl, rfl, HNX.out.2, hT, HSET, HB⟩
            case measure => have := HNX.out; simp [intOf]; omega
        · have k1 : ¬ (k : Int) ≤ (x.size : Int) := by omega
          have hTH : T = H := by have := HF.out.2; rw [setR_end _ _ _ _ _ _ (by omega)] at this; exact this
          subst hTH
          go_wp2
          refine bodyPost_ret (results_tmp2 rfl _ _ _) rfl ⟨rfl, HB.out⟩
end Go.Proofs.YtmfpaankkoaoaaaDoor

/- Both sides take the same groups. -/
namespace Go.Proofs.YtmfpaankkoaoaaaDoor
open Go.RowKit Go.Shelf

/-- Does the reference take the text as the next group? -/
def OkR (x : ByteArray) (l : List Int) (first : Int) : Prop :=
  0 < (grpR x).1 ∧ 0 < (grpR x).2 ∧ first < (Lib.ctz 64 (grpR x).1 : Int) ∧ grpT (grpR x).1 (grpR x).2 = x ∧ newG (grpR x).1 (grpR x).2 l = true
theorem ctz_day {d : Nat} (hd : d ≤ 127) (h0 : d ≠ 0) : d.testBit (Lib.ctz 64 d) = true ∧ Lib.ctz 64 d < 7 := by
  have h1 := (ctz_bit (x := d) (by omega) h0).1
  refine ⟨h1, ?_⟩
  by_cases h : Lib.ctz 64 d < 7
  · exact h
  · rw [big_bit (N := 7) (by omega) (by omega)] at h1; cases h1
theorem took {x : ByteArray} {l : List Int} {f : Nat} {first : Int} (hf : first = -1 ∧ f = 0 ∨ first = (f : Int) ∧ f < 7 ∧ hrs l f ≠ 0) :
    OkR x l first ↔ ¬ (grpDays x = 0 ∨ grpHours x = 0 ∨ Lib.ctz 64 (grpDays x) < f ∨ newG (grpDays x) (grpHours x) l = false) := by
  have key : grpDays x ≠ 0 → grpHours x ≠ 0 → grpR x = (grpDays x, grpHours x) ∧ grpT (grpDays x) (grpHours x) = x ∧ grpDays x ≤ 127 := fun h1 h2 => by
    obtain ⟨e, h3⟩ := grp_write h1 h2
    have h4 := grpHours_le x
    refine ⟨?_, e.symm, h3⟩
    have := grpR_read h3 h1 h4 h2
    rwa [← e] at this
  constructor
  · rintro ⟨h1, h2, h3, h4, h5⟩
    obtain ⟨b1, b2⟩ := grpR_le x
    obtain ⟨g1, g2⟩ := grp_read (d := (grpR x).1) (h := (grpR x).2) b1 (by omega) b2 (by omega)
    rw [h4] at g1 g2
    rintro (h | h | h | h)
    · omega
    · omega
    · rw [g1] at h
      rcases hf with ⟨-, rfl⟩ | ⟨rfl, -, -⟩ <;> omega
    · rw [g1, g2, h5] at h; cases h
  · intro h
    have n1 : grpDays x ≠ 0 := fun e => h (.inl e)
    have n2 : grpHours x ≠ 0 := fun e => h (.inr (.inl e))
    have n3 : ¬ Lib.ctz 64 (grpDays x) < f := fun e => h (.inr (.inr (.inl e)))
    have n4 : newG (grpDays x) (grpHours x) l = true := by
      cases e : newG (grpDays x) (grpHours x) l with
      | true => rfl
      | false => exact absurd (.inr (.inr (.inr e))) h
    obtain ⟨k1, k2, k3⟩ := key n1 n2
    unfold OkR
    rw [k1]
    refine ⟨by dsimp only; omega, by dsimp only; omega, ?_, k2, n4⟩
    dsimp only
    rcases hf with ⟨rfl, -⟩ | ⟨rfl, hf7, hf0⟩
    · omega
    · have hne : Lib.ctz 64 (grpDays x) ≠ f := fun e => by
        have hb := (ctz_day k3 n1).1
        rw [e] at hb
        rcases (newG_iff.1 n4 f hf7).2 with h0 | h0
        · exact hf0 h0
        · rw [hb] at h0; cases h0
      omega
/-- What is taken is the same. -/
theorem took_same {x : ByteArray} {l : List Int} {first : Int} (h : OkR x l first) : grpR x = (grpDays x, grpHours x) := by
  obtain ⟨h1, h2, -, h4, -⟩ := h
  obtain ⟨b1, b2⟩ := grpR_le x
  obtain ⟨g1, g2⟩ := grp_read (d := (grpR x).1) (h := (grpR x).2) b1 (by omega) b2 (by omega)
  rw [h4] at g1 g2
  exact Prod.ext g1.symm g2.symm
end Go.Proofs.YtmfpaankkoaoaaaDoor

/- The reference's Parse: what its loop knows, and what a round does to it. -/
namespace Go.Proofs.YtmfpaankkoaoaaaDoor
open Go.RowKit Go.Shelf

theorem results_wtt {fn : Func} {p u v : Tmp} (h : fn.results = #[.cell p 23, .tmp u, .tmp v]) (tmps : Array Value) (w : World) (g : Nat) (l : List Int)
    (hp : tmps.getD p undef = .pointer (some ⟨g, 0, none⟩)) (hg : Row w g 23 (ints l)) (h7 : l.length = 7) :
    (results fn tmps).run Tryd.prog w = .ok (.tuple #[wv l, tmps.getD u undef, tmps.getD v undef]) w := by
  have hp' : tmps[p]?.getD undef = .pointer (some ⟨g, 0, none⟩) := by simpa using hp
  obtain ⟨x0, x1, x2, x3, x4, x5, x6, rfl⟩ := seven h7
  obtain ⟨y0, y1, y2, y3, y4, y5, y6, -⟩ := seven_cells hg
  simp [results, h, hp', asAddr, go_sem, y0, y1, y2, y3, y4, y5, y6, wv, ints]
/-- A text out of the row of texts. -/
theorem own_str {w : World} {base n : Nat} {v : Value} {L : List ByteArray} (h : w.ownsRow base 9 1 v n (L.map Value.string)) (hn : L.length = n) {i : Nat} {D : ByteArray} (hD : L[i]? = some D) :
    ∃ g c, v = .slice (some ⟨g, 0, none⟩) n c ∧ base ≤ g ∧ g < w.heap.size ∧ w.cell? ⟨g, i, none⟩ = some (.string D) := by
  have hi := (List.getElem?_eq_some_iff.1 hD).1
  rcases h.2 with ⟨rfl, h0⟩ | ⟨g, cap, cur, rfl, hb, hg, h1, h2, h3, h4⟩
  · omega
  · refine ⟨g, cap, rfl, hb, (Array.getElem?_eq_some_iff.1 hg).1, ?_⟩
    have := h.cellAt i (by simp; omega)
    rw [this, List.getElem?_map, hD]; rfl
/-- What the loop knows of its world. -/
structure RpIn (w : World) (L : List ByteArray) (g c : Nat) (l : List Int) (k f : Nat) (fi : Int) (wr : World) : Prop where
  own : wr.ownsRow (w.heap.size + 2) 9 1 (.slice (some ⟨g, 0, none⟩) L.length c) L.length (L.map Value.string)
  r0 : Row wr w.heap.size 23 (ints zeroW)
  rw : Row wr (w.heap.size + 1) 23 (ints l)
  h7 : l.length = 7
  hv : validW l = true
  hf : fi = -1 ∧ f = 0 ∨ fi = (f : Int) ∧ f < 7 ∧ hrs l f ≠ 0
  ps : psStep L zeroW 0 0 = psStep (L.drop k) l k f
  b : Below w.heap.size w wr
theorem RpIn.below {w : World} {L : List ByteArray} {g c : Nat} {l : List Int} {k f : Nat} {fi : Int} {wr u : World} (h : RpIn w L g c l k f fi wr) (hb : Below wr.heap.size wr u) : RpIn w L g c l k f fi u :=
  ⟨own_below h.own hb, h.r0.below hb h.r0.lt, h.rw.below hb h.rw.lt, h.h7, h.hv, h.hf, h.ps, below_to h.b hb⟩
theorem RpIn.cell {w : World} {L : List ByteArray} {g c : Nat} {l : List Int} {k f : Nat} {fi : Int} {wr : World} (h : RpIn w L g c l k f fi wr) {i : Nat} {D : ByteArray} (hD : L[i]? = some D) : w.heap.size + 2 ≤ g ∧ g < wr.heap.size ∧ wr.cell? ⟨g, i, none⟩ = some (.string D) := by
  obtain ⟨g2, c2, he, h0, h1, h2⟩ := own_str h.own rfl hD
  cases he
  exact ⟨h0, h1, h2⟩
/-- What is taken of the test before the days. -/
def okB (S H c : Nat) (fi : Int) (x : ByteArray) : Bool := decide (0 < S) && decide (0 < H) && decide (fi < (c : Int)) && decide (grpT S H = x)
theorem okB_iff {x : ByteArray} {l : List Int} {fi : Int} {S H : Nat} (hG : grpR x = (S, H)) : OkR x l fi ↔ okB S H (Lib.ctz 64 S) fi x = true ∧ newG S H l = true := by
  unfold OkR okB
  rw [hG]
  simp [and_assoc]
theorem RpIn.bad {w : World} {L : List ByteArray} {g c : Nat} {l : List Int} {k f : Nat} {fi : Int} {wr : World} (h : RpIn w L g c l k f fi wr) {x : ByteArray} (hx : L[k]? = some x) (hn : ¬ OkR x l fi) : psStep L zeroW 0 0 = (zeroW, k, 60) := by
  obtain ⟨hi, he⟩ := List.getElem?_eq_some_iff.1 hx
  rw [h.ps, List.drop_eq_getElem_cons hi, he]
  refine ps_bad ?_
  by_cases hq : grpDays x = 0 ∨ grpHours x = 0 ∨ Lib.ctz 64 (grpDays x) < f ∨ newG (grpDays x) (grpHours x) l = false
  · exact hq
  · exact absurd ((took h.hf).2 hq) hn
theorem RpIn.good {w : World} {L : List ByteArray} {g c : Nat} {l : List Int} {k f : Nat} {fi : Int} {wr wx : World} (h : RpIn w L g c l k f fi wr) {x : ByteArray} (hx : L[k]? = some x) (hn : OkR x l fi) {S H : Nat} (hG : grpR x = (S, H))
    (ho : wx.ownsRow (w.heap.size + 2) 9 1 (.slice (some ⟨g, 0, none⟩) L.length c) L.length (L.map Value.string)) (hr : Row wx w.heap.size 23 (ints zeroW)) (hw : Row wx (w.heap.size + 1) 23 (ints (addL S H l 7))) (hb : Below w.heap.size w wx) :
    RpIn w L g c (addL S H l 7) (k + 1) (Lib.ctz 64 S) ((Lib.ctz 64 S : Nat) : Int) wx := by
  obtain ⟨hi, he⟩ := List.getElem?_eq_some_iff.1 hx
  have hs := took_same hn
  rw [hG] at hs
  obtain ⟨e1, e2⟩ := Prod.mk.inj hs
  have hle := grpR_le x
  rw [hG] at hle
  obtain ⟨o1, o2, -, -, -⟩ := id hn
  rw [hG] at o1 o2
  dsimp only at hle o1 o2
  have hc := ctz_day hle.1 (by omega : S ≠ 0)
  refine ⟨ho, hr, hw, addL_len _ _ _ _, addL_valid hle.2 h.h7 h.hv, .inr ⟨rfl, hc.2, ?_⟩, ?_, hb⟩
  · rw [addL_hrs S H l hc.2, hc.1, if_pos rfl]; omega
  · rw [h.ps, List.drop_eq_getElem_cons hi, he, ps_ok ((took h.hf).1 hn), ← e1, ← e2]
/-- What the test of a day keeps. -/
theorem clash_def (S H d x : Nat) : clash S H d x = (decide (x = H) || (decide (x ≠ 0) && S.testBit d)) := rfl
theorem wrD_le (S : Nat) : (wrRuns [44] wrD S).size ≤ 2750 := wrRuns_size [44] (by decide) wrD S (fun p _ => wrD_size _ _)
theorem wrH_le {H : Nat} (h : H ≤ 16777215) : (wrRuns [32] wrH H).size ≤ 2750 := wrRuns_size [32] (by decide) wrH H (fun p hp => by obtain ⟨-, a1, a2⟩ := rl_mem H h 25 0 (by omega) p hp; exact wrH_size _ _ (by omega) (by omega))
theorem ps_nil (l : List Int) (n f : Nat) : psStep [] l n f = (l, n, 0) := rfl
end Go.Proofs.YtmfpaankkoaoaaaDoor

/- The reference's And, Or and Not. -/
namespace Go.Proofs.YtmfpaankkoaoaaaDoor
open Go.RowKit Go.Shelf

/-- The first n days are put together, the others are as they were. -/
def mixL (F : Nat → Nat → Nat) (la lb : List Int) (n : Nat) : List Int := (List.range 7).map fun k => if k < n then ((F (hrs la k) (hrs lb k) : Nat) : Int) else ((hrs la k : Nat) : Int)
theorem mixL_len (F : Nat → Nat → Nat) (la lb : List Int) (n : Nat) : (mixL F la lb n).length = 7 := by simp [mixL]
theorem mixL_all (F : Nat → Nat → Nat) (la lb : List Int) : mixL F la lb 7 = combL F la lb := by
  unfold mixL combL
  refine List.map_congr_left fun k hk => ?_
  rw [if_pos (List.mem_range.1 hk)]
theorem mixL_zero (F : Nat → Nat → Nat) {la : List Int} (lb : List Int) (h7 : la.length = 7) (hv : validW la = true) : mixL F la lb 0 = la := by
  apply List.ext_getElem?
  intro k
  by_cases hk : k < 7
  · rw [(hrs_at hv (k := k) (by omega)).1]
    simp [mixL, List.getElem?_map, List.getElem?_range hk]
  · rw [List.getElem?_eq_none (by rw [mixL_len]; omega), List.getElem?_eq_none (by omega)]
theorem mixL_at (F : Nat → Nat → Nat) (la lb : List Int) (n : Nat) (hn : n < 7) : (ints (mixL F la lb n))[n]? = some (.int .i64 ((hrs la n : Nat) : Int)) := by
  rw [ints_get]
  simp [mixL, List.getElem?_map, List.getElem?_range hn]
theorem mixL_put (F : Nat → Nat → Nat) (la lb : List Int) (n : Nat) (hn : n < 7) : (ints (mixL F la lb n)).setIfInBounds n (.int .i64 ((F (hrs la n) (hrs lb n) : Nat) : Int)) = ints (mixL F la lb (n + 1)) := by
  apply Array.ext_getElem?
  intro k
  rw [Array.getElem?_setIfInBounds, ints_get, ints_get]
  by_cases hk : n = k
  · subst hk
    rw [if_pos rfl]
    simp [ints, mixL, hn]
  · rw [if_neg hk]
    by_cases h7 : k < 7
    · simp only [mixL, List.getElem?_map, List.getElem?_range h7, Option.map_some]
      by_cases h1 : k < n
      · rw [if_pos h1, if_pos (by omega)]
      · rw [if_neg h1, if_neg (by omega)]
    · rw [List.getElem?_eq_none (by rw [mixL_len]; omega), List.getElem?_eq_none (by rw [mixL_len]; omega)]
theorem rowW {w : World} {g : Nat} {a b c d e f h : Int} (hr : Row w g 23 #[.int .i64 a, .int .i64 b, .int .i64 c, .int .i64 d, .int .i64 e, .int .i64 f, .int .i64 h]) : Row w g 23 (ints [a, b, c, d, e, f, h]) := hr
theorem put7 {w : World} {g : Nat} {l : List Int} (h7 : l.length = 7) (hr : Row w g 23 (ints l)) (a b c d e f h : Int) :
    Row (((((((w.setCell ⟨g, 0, none⟩ (.int .i64 a)).setCell ⟨g, 1, none⟩ (.int .i64 b)).setCell ⟨g, 2, none⟩ (.int .i64 c)).setCell ⟨g, 3, none⟩ (.int .i64 d)).setCell ⟨g, 4, none⟩ (.int .i64 e)).setCell ⟨g, 5, none⟩ (.int .i64 f)).setCell ⟨g, 6, none⟩ (.int .i64 h)) g 23 (ints [a, b, c, d, e, f, h]) := by
  have := Row.putW (Row.putW (Row.putW (Row.putW (Row.putW (Row.putW (Row.putW hr 0 a) 1 b) 2 c) 3 d) 4 e) 5 f) 6 h
  obtain ⟨y0, y1, y2, y3, y4, y5, y6, rfl⟩ := seven h7
  exact this
theorem below7 {w W : World} {g : Nat} (hb : Below w.heap.size w W) (hg : w.heap.size ≤ g) (a b c d e f h : Int) :
    Below w.heap.size w (((((((W.setCell ⟨g, 0, none⟩ (.int .i64 a)).setCell ⟨g, 1, none⟩ (.int .i64 b)).setCell ⟨g, 2, none⟩ (.int .i64 c)).setCell ⟨g, 3, none⟩ (.int .i64 d)).setCell ⟨g, 4, none⟩ (.int .i64 e)).setCell ⟨g, 5, none⟩ (.int .i64 f)).setCell ⟨g, 6, none⟩ (.int .i64 h)) :=
  ((((((hb.setCell (p := ⟨g, 0, none⟩) hg _).setCell (p := ⟨g, 1, none⟩) hg _).setCell (p := ⟨g, 2, none⟩) hg _).setCell (p := ⟨g, 3, none⟩) hg _).setCell (p := ⟨g, 4, none⟩) hg _).setCell (p := ⟨g, 5, none⟩) hg _).setCell (p := ⟨g, 6, none⟩) hg _
set_option maxRecDepth 100000 in
set_option maxHeartbeats 8000000 in
theorem rand_any (la lb : List Int) (ha : la.length = 7) (hb : lb.length = 7) (w : World) : Calls Tryd.prog 20 #[wv la, wv lb] w fun e w' => e = .returned (.tuple #[wv (combM fA la lb).1, .int .i64 (combM fA la lb).2]) ∧ Below w.heap.size w w' := by
  have VA := Lib.hid (fun u => rvalid_any la ha u)
  have VB := Lib.hid (fun u => rvalid_any lb hb u)
  have HMZ := Lib.hid (fun hv => mixL_zero fA lb ha hv)
  have HAT := Lib.hid (fun (hv : validW lb = true) k (hk : k < 7) => (hrs_at hv (show k < lb.length by omega)))
  have HAA := Lib.hid (fun (hv : validW la = true) k => hrs_le hv k)
  have HCB := Lib.hid (fun k => ints_get lb k)
  unfold combM
  obtain ⟨LA, hLA⟩ : ∃ L, la = L := ⟨_, rfl⟩
  obtain ⟨LB, hLB⟩ : ∃ L, lb = L := ⟨_, rfl⟩
  obtain ⟨a0, a1, a2, a3, a4, a5, a6, rfl⟩ := seven ha
  obtain ⟨b0, b1, b2, b3, b4, b5, b6, rfl⟩ := seven hb
  have hwa : wv LA = .agg #[.int .i64 a0, .int .i64 a1, .int .i64 a2, .int .i64 a3, .int .i64 a4, .int .i64 a5, .int .i64 a6] := by rw [← hLA]; rfl
  have hwb : wv LB = .agg #[.int .i64 b0, .int .i64 b1, .int .i64 b2, .int .i64 b3, .int .i64 b4, .int .i64 b5, .int .i64 b6] := by rw [← hLB]; rfl
  have hia : ints LA = #[.int .i64 a0, .int .i64 a1, .int .i64 a2, .int .i64 a3, .int .i64 a4, .int .i64 a5, .int .i64 a6] := by rw [← hLA]; rfl
  have hib : ints LB = #[.int .i64 b0, .int .i64 b1, .int .i64 b2, .int .i64 b3, .int .i64 b4, .int .i64 b5, .int .i64 b6] := by rw [← hLB]; rfl
  simp only [hLA, hLB] at VA VB HMZ HAT HAA HCB ⊢
  rw [hwa] at VA ⊢
  rw [hwb] at VB ⊢
  rw [hib] at HCB
  have HIA := Lib.hid hia
  clear hwa hwb hib ha hb hLA hLB hia
  obtain ⟨W0, hW0⟩ : ∃ W0, ((w.alloc (.cells #[.int .i64 a0, .int .i64 a1, .int .i64 a2, .int .i64 a3, .int .i64 a4, .int .i64 a5, .int .i64 a6] 23)).alloc (.cells #[.int .i64 b0, .int .i64 b1, .int .i64 b2, .int .i64 b3, .int .i64 b4, .int .i64 b5, .int .i64 b6] 23)).alloc (.cells #[.int .i64 0, .int .i64 0, .int .i64 0, .int .i64 0, .int .i64 0, .int .i64 0, .int .i64 0] 23) = W0 := ⟨_, rfl⟩
  have RA := Lib.hid (show Row W0 w.heap.size 23 #[.int .i64 a0, .int .i64 a1, .int .i64 a2, .int .i64 a3, .int .i64 a4, .int .i64 a5, .int .i64 a6] by rw [← hW0]; exact ((Row.new w _ _).alloc _).alloc _)
  have RB := Lib.hid (show Row W0 (w.heap.size + 1) 23 #[.int .i64 b0, .int .i64 b1, .int .i64 b2, .int .i64 b3, .int .i64 b4, .int .i64 b5, .int .i64 b6] by
    rw [← hW0]
    have := Row.new (w.alloc (.cells #[.int .i64 a0, .int .i64 a1, .int .i64 a2, .int .i64 a3, .int .i64 a4, .int .i64 a5, .int .i64 a6] 23)) 23 #[.int .i64 b0, .int .i64 b1, .int .i64 b2, .int .i64 b3, .int .i64 b4, .int .i64 b5, .int .i64 b6]
    rw [World.size_alloc] at this
    exact this.alloc _)
  have RR := Lib.hid (show Row W0 (w.heap.size + 1 + 1) 23 #[.int .i64 0, .int .i64 0, .int .i64 0, .int .i64 0, .int .i64 0, .int .i64 0, .int .i64 0] by
    rw [← hW0]
    have := Row.new ((w.alloc (.cells #[.int .i64 a0, .int .i64 a1, .int .i64 a2, .int .i64 a3, .int .i64 a4, .int .i64 a5, .int .i64 a6] 23)).alloc (.cells #[.int .i64 b0, .int .i64 b1, .int .i64 b2, .int .i64 b3, .int .i64 b4, .int .i64 b5, .int .i64 b6] 23)) 23 #[.int .i64 0, .int .i64 0, .int .i64 0, .int .i64 0, .int .i64 0, .int .i64 0, .int .i64 0]
    simp only [World.size_alloc] at this
    exact this)
  have HB := Lib.hid (show Below w.heap.size w W0 by rw [← hW0]; exact (((Below.refl _ w).alloc (Nat.le_refl _) _).alloc (by simp) _).alloc (by simp; omega) _)
  have HW0 := Lib.hid hW0
  clear hW0
  have x0 := RA.out.cell 0; have y0 := RB.out.cell 0; have x1 := RA.out.cell 1; have y1 := RB.out.cell 1; have x2 := RA.out.cell 2; have y2 := RB.out.cell 2; have x3 := RA.out.cell 3; have y3 := RB.out.cell 3; have x4 := RA.out.cell 4; have y4 := RB.out.cell 4; have x5 := RA.out.cell 5; have y5 := RB.out.cell 5; have x6 := RA.out.cell 6; have y6 := RB.out.cell 6
  have la_ := RA.out.lt; have lb_ := RB.out.lt
  cases hva : validW LA with
  | false =>
    rw [hva] at VA
    clear hva HMZ HAT HAA HCB HIA
    go_enter Tryd.func20, Tryd.ntmps20
    go_upto_region 1 with (fail)
    rw [HW0.out]
    go_upto_region 2 with (first | (go_at_call 7; (with_reducible refine Calls.mono (VA.out _) ?_); rintro r u1 ⟨rfl, hb⟩; have HB := Lib.hid (below_to HB.out hb); have RA := Lib.hid (RA.out.below hb RA.out.lt); have RB := Lib.hid (RB.out.below hb RB.out.lt); have RR := Lib.hid (RR.out.below hb RR.out.lt); clear x0 y0 x1 y1 x2 y2 x3 y3 x4 y4 x5 y5 x6 y6 la_ lb_; have x0 := RA.out.cell 0; have y0 := RB.out.cell 0; have x1 := RA.out.cell 1; have y1 := RB.out.cell 1; have x2 := RA.out.cell 2; have y2 := RB.out.cell 2; have x3 := RA.out.cell 3; have y3 := RB.out.cell 3; have x4 := RA.out.cell 4; have y4 := RB.out.cell 4; have x5 := RA.out.cell 5; have y5 := RB.out.cell 5; have x6 := RA.out.cell 6; have y6 := RB.out.cell 6; have la_ := RA.out.lt; have lb_ := RB.out.lt; clear hb) | (go_at_call 7; (with_reducible refine Calls.mono (VB.out _) ?_); rintro r u2 ⟨rfl, hb⟩; have HB := Lib.hid (below_to HB.out hb); have RA := Lib.hid (RA.out.below hb RA.out.lt); have RB := Lib.hid (RB.out.below hb RB.out.lt); have RR := Lib.hid (RR.out.below hb RR.out.lt); clear x0 y0 x1 y1 x2 y2 x3 y3 x4 y4 x5 y5 x6 y6 la_ lb_; have x0 := RA.out.cell 0; have y0 := RB.out.cell 0; have x1 := RA.out.cell 1; have y1 := RB.out.cell 1; have x2 := RA.out.cell 2; have y2 := RB.out.cell 2; have x3 := RA.out.cell 3; have y3 := RB.out.cell 3; have x4 := RA.out.cell 4; have y4 := RB.out.cell 4; have x5 := RA.out.cell 5; have y5 := RB.out.cell 5; have x6 := RA.out.cell 6; have y6 := RB.out.cell 6; have la_ := RA.out.lt; have lb_ := RB.out.lt; clear hb))
    obtain ⟨d0, d1, d2, d3, d4, d5, d6, f0, f1, f2, f3, f4, f5, f6⟩ := seven_cells (rowW RR.out)
    have lr := RR.out.lt
    clear VA VB
    go_wp2
    refine bodyPost_ret (results_wt rfl _ _ (w.heap.size + 1 + 1) [0, 0, 0, 0, 0, 0, 0] rfl (put7 (l := [0, 0, 0, 0, 0, 0, 0]) rfl (rowW RR.out) 0 0 0 0 0 0 0) rfl) rfl ⟨rfl, below7 HB.out (by omega) 0 0 0 0 0 0 0⟩
  | true =>
    rw [hva] at VA
    cases hvb : validW LB with
    | false =>
      rw [hvb] at VB
      clear hva hvb HMZ HAT HAA HCB HIA
      go_enter Tryd.func20, Tryd.ntmps20
      go_upto_region 1 with (fail)
      rw [HW0.out]
      go_upto_region 2 with (first | (go_at_call 7; (with_reducible refine Calls.mono (VA.out _) ?_); rintro r u1 ⟨rfl, hb⟩; have HB := Lib.hid (below_to HB.out hb); have RA := Lib.hid (RA.out.below hb RA.out.lt); have RB := Lib.hid (RB.out.below hb RB.out.lt); have RR := Lib.hid (RR.out.below hb RR.out.lt); clear x0 y0 x1 y1 x2 y2 x3 y3 x4 y4 x5 y5 x6 y6 la_ lb_; have x0 := RA.out.cell 0; have y0 := RB.out.cell 0; have x1 := RA.out.cell 1; have y1 := RB.out.cell 1; have x2 := RA.out.cell 2; have y2 := RB.out.cell 2; have x3 := RA.out.cell 3; have y3 := RB.out.cell 3; have x4 := RA.out.cell 4; have y4 := RB.out.cell 4; have x5 := RA.out.cell 5; have y5 := RB.out.cell 5; have x6 := RA.out.cell 6; have y6 := RB.out.cell 6; have la_ := RA.out.lt; have lb_ := RB.out.lt; clear hb) | (go_at_call 7; (with_reducible refine Calls.mono (VB.out _) ?_); rintro r u2 ⟨rfl, hb⟩; have HB := Lib.hid (below_to HB.out hb); have RA := Lib.hid (RA.out.below hb RA.out.lt); have RB := Lib.hid (RB.out.below hb RB.out.lt); have RR := Lib.hid (RR.out.below hb RR.out.lt); clear x0 y0 x1 y1 x2 y2 x3 y3 x4 y4 x5 y5 x6 y6 la_ lb_; have x0 := RA.out.cell 0; have y0 := RB.out.cell 0; have x1 := RA.out.cell 1; have y1 := RB.out.cell 1; have x2 := RA.out.cell 2; have y2 := RB.out.cell 2; have x3 := RA.out.cell 3; have y3 := RB.out.cell 3; have x4 := RA.out.cell 4; have y4 := RB.out.cell 4; have x5 := RA.out.cell 5; have y5 := RB.out.cell 5; have x6 := RA.out.cell 6; have y6 := RB.out.cell 6; have la_ := RA.out.lt; have lb_ := RB.out.lt; clear hb))
      obtain ⟨d0, d1, d2, d3, d4, d5, d6, f0, f1, f2, f3, f4, f5, f6⟩ := seven_cells (rowW RR.out)
      have lr := RR.out.lt
      clear VA VB
      go_wp2
      refine bodyPost_ret (results_wt rfl _ _ (w.heap.size + 1 + 1) [0, 0, 0, 0, 0, 0, 0] rfl (put7 (l := [0, 0, 0, 0, 0, 0, 0]) rfl (rowW RR.out) 0 0 0 0 0 0 0) rfl) rfl ⟨rfl, below7 HB.out (by omega) 0 0 0 0 0 0 0⟩
    | true =>
      rw [hvb] at VB
      have HMZ2 := Lib.hid (HMZ.out hva)
      have HT := Lib.hid (HAT.out hvb)
      have HL := Lib.hid (HAA.out hva)
      have HC := Lib.hid (combL_len fA LA LB)
      clear hva hvb HMZ HAT HAA
      go_enter Tryd.func20, Tryd.ntmps20
      go_upto_region 1 with (fail)
      rw [HW0.out]
      go_upto_region 3 with (first | (go_at_call 7; (with_reducible refine Calls.mono (VA.out _) ?_); rintro r u1 ⟨rfl, hb⟩; have HB := Lib.hid (below_to HB.out hb); have RA := Lib.hid (RA.out.below hb RA.out.lt); have RB := Lib.hid (RB.out.below hb RB.out.lt); have RR := Lib.hid (RR.out.below hb RR.out.lt); clear x0 y0 x1 y1 x2 y2 x3 y3 x4 y4 x5 y5 x6 y6 la_ lb_; have x0 := RA.out.cell 0; have y0 := RB.out.cell 0; have x1 := RA.out.cell 1; have y1 := RB.out.cell 1; have x2 := RA.out.cell 2; have y2 := RB.out.cell 2; have x3 := RA.out.cell 3; have y3 := RB.out.cell 3; have x4 := RA.out.cell 4; have y4 := RB.out.cell 4; have x5 := RA.out.cell 5; have y5 := RB.out.cell 5; have x6 := RA.out.cell 6; have y6 := RB.out.cell 6; have la_ := RA.out.lt; have lb_ := RB.out.lt; clear hb) | (go_at_call 7; (with_reducible refine Calls.mono (VB.out _) ?_); rintro r u2 ⟨rfl, hb⟩; have HB := Lib.hid (below_to HB.out hb); have RA := Lib.hid (RA.out.below hb RA.out.lt); have RB := Lib.hid (RB.out.below hb RB.out.lt); have RR := Lib.hid (RR.out.below hb RR.out.lt); clear x0 y0 x1 y1 x2 y2 x3 y3 x4 y4 x5 y5 x6 y6 la_ lb_; have x0 := RA.out.cell 0; have y0 := RB.out.cell 0; have x1 := RA.out.cell 1; have y1 := RB.out.cell 1; have x2 := RA.out.cell 2; have y2 := RB.out.cell 2; have x3 := RA.out.cell 3; have y3 := RB.out.cell 3; have x4 := RA.out.cell 4; have y4 := RB.out.cell 4; have x5 := RA.out.cell 5; have y5 := RB.out.cell 5; have x6 := RA.out.cell 6; have y6 := RB.out.cell 6; have la_ := RA.out.lt; have lb_ := RB.out.lt; clear hb))
      clear x0 x1 x2 x3 x4 x5 x6 y0 y1 y2 y3 y4 y5 y6 la_ lb_
      have RA2 := Lib.hid (show Row u2 w.heap.size 23 (ints (mixL fA LA LB 0)) by rw [HMZ2.out, HIA.out]; exact RA.out)
      go_wp2
      go_loopw [6] (fun i wr => ∃ k : Nat, k ≤ 7 ∧ i = .int .i64 (k : Int) ∧ Hid (Row wr w.heap.size 23 (ints (mixL fA LA LB k))) ∧ Hid (Row wr (w.heap.size + 1) 23 #[.int .i64 b0, .int .i64 b1, .int .i64 b2, .int .i64 b3, .int .i64 b4, .int .i64 b5, .int .i64 b6]) ∧ Hid (Row wr (w.heap.size + 1 + 1) 23 #[.int .i64 0, .int .i64 0, .int .i64 0, .int .i64 0, .int .i64 0, .int .i64 0, .int .i64 0]) ∧ Hid (Below w.heap.size w wr)) (fun i _ => 7 - (intOf i).toNat)
      case atStart => exact ⟨0, by omega, rfl, RA2, RB, RR, HB⟩
      case round =>
        clear RA2 RA RB RR HB
        obtain ⟨k, hk, rfl, RA, RB, RR, HB⟩ := hrel
        have i1 : (0 : Int) ≤ (k : Int) := by omega
        by_cases hlt : k < 7
        · have i2 : (k : Int) < 7 := by omega
          obtain ⟨t1, t2⟩ := HT.out k hlt
          have hl := HL.out k
          have ca := (RA.out.cell k).trans (mixL_at fA LA LB k hlt)
          have cb := (RB.out.cell k).trans ((HCB.out k).trans (by rw [t1]; first | done | rfl))
          have fa := RA.out.free k
          have lA := RA.out.lt; have lB := RB.out.lt
          have hbits := bits_and64 (hrs LA k) (hrs LB k) (by omega) (by omega)
          have HP := Lib.hid (show (ints (mixL fA LA LB k)).setIfInBounds k (.int .i64 (((hrs LA k) &&& (hrs LB k) : Nat) : Int)) = ints (mixL fA LA LB (k + 1)) from mixL_put fA LA LB k hlt)
          have hres : (hrs LA k) &&& (hrs LB k) ≤ 16777215 := le_and (by omega)
          (try dsimp only at hres)
          obtain ⟨p, hp⟩ : ∃ p, hrs LA k = p := ⟨_, rfl⟩
          obtain ⟨q, hq⟩ : ∃ q, hrs LB k = q := ⟨_, rfl⟩
          rw [hp, hq] at hbits HP hres
          rw [hp] at ca
          rw [hq] at cb
          obtain ⟨z, hz⟩ : ∃ z, p &&& q = z := ⟨_, rfl⟩
          (try dsimp only at HP)
          rw [hz] at hbits HP hres
          clear hp hq hz t1 t2 hl
          go_wp2
          go_still_tail 9, (by kernel_rfl)
          change wpList _ _ _ _ _ wr.drew
          go_wp2
          go_roundw
          case rel => exact ⟨k + 1, by omega, by go_num, Lib.hid (by rw [← HP.out]; exact (Row.put (RA.out) k _)), Lib.hid ((Row.far RB.out (p := ⟨w.heap.size, k, none⟩) (by dsimp only; omega) _)), Lib.hid ((Row.far RR.out (p := ⟨w.heap.size, k, none⟩) (by dsimp only; omega) _)), Lib.hid (Below.drew (Below.setCell (HB.out) (p := ⟨w.heap.size, k, none⟩) (by dsimp only; omega) _))⟩
          case measure => simp [intOf]; omega
        · have hk7 : k = 7 := by omega
          subst hk7
          have ra := RA.out
          rw [mixL_all] at ra
          obtain ⟨p0, p1, p2, p3, p4, p5, p6, hp⟩ := seven HC.out
          rw [hp] at ra
          obtain ⟨c0, c1, c2, c3, c4, c5, c6, -⟩ := seven_cells ra
          obtain ⟨d0, d1, d2, d3, d4, d5, d6, f0, f1, f2, f3, f4, f5, f6⟩ := seven_cells (rowW RR.out)
          have lA := RA.out.lt; have lR := RR.out.lt
          have HP := Lib.hid hp
          clear ra hp
          go_wp2
          refine bodyPost_ret (results_wt rfl _ _ (w.heap.size + 1 + 1) [p0, p1, p2, p3, p4, p5, p6] rfl (put7 (l := [0, 0, 0, 0, 0, 0, 0]) rfl (rowW RR.out) p0 p1 p2 p3 p4 p5 p6) rfl) rfl ⟨by rw [← HP.out]; rfl, below7 HB.out (by omega) p0 p1 p2 p3 p4 p5 p6⟩
set_option maxRecDepth 100000 in
set_option maxHeartbeats 8000000 in
theorem ror_any (la lb : List Int) (ha : la.length = 7) (hb : lb.length = 7) (w : World) : Calls Tryd.prog 22 #[wv la, wv lb] w fun e w' => e = .returned (.tuple #[wv (combM fO la lb).1, .int .i64 (combM fO la lb).2]) ∧ Below w.heap.size w w' := by
  have VA := Lib.hid (fun u => rvalid_any la ha u)
  have VB := Lib.hid (fun u => rvalid_any lb hb u)
  have HMZ := Lib.hid (fun hv => mixL_zero fO lb ha hv)
  have HAT := Lib.hid (fun (hv : validW lb = true) k (hk : k < 7) => (hrs_at hv (show k < lb.length by omega)))
  have HAA := Lib.hid (fun (hv : validW la = true) k => hrs_le hv k)
  have HCB := Lib.hid (fun k => ints_get lb k)
  unfold combM
  obtain ⟨LA, hLA⟩ : ∃ L, la = L := ⟨_, rfl⟩
  obtain ⟨LB, hLB⟩ : ∃ L, lb = L := ⟨_, rfl⟩
  obtain ⟨a0, a1, a2, a3, a4, a5, a6, rfl⟩ := seven ha
  obtain ⟨b0, b1, b2, b3, b4, b5, b6, rfl⟩ := seven hb
  have hwa : wv LA = .agg #[.int .i64 a0, .int .i64 a1, .int .i64 a2, .int .i64 a3, .int .i64 a4, .int .i64 a5, .int .i64 a6] := by rw [← hLA]; rfl
  have hwb : wv LB = .agg #[.int .i64 b0, .int .i64 b1, .int .i64 b2, .int .i64 b3, .int .i64 b4, .int .i64 b5, .int .i64 b6] := by rw [← hLB]; rfl
  have hia : ints LA = #[.int .i64 a0, .int .i64 a1, .int .i64 a2, .int .i64 a3, .int .i64 a4, .int .i64 a5, .int .i64 a6] := by rw [← hLA]; rfl
  have hib : ints LB = #[.int .i64 b0, .int .i64 b1, .int .i64 b2, .int .i64 b3, .int .i64 b4, .int .i64 b5, .int .i64 b6] := by rw [← hLB]; rfl
  simp only [hLA, hLB] at VA VB HMZ HAT HAA HCB ⊢
  rw [hwa] at VA ⊢
  rw [hwb] at VB ⊢
  rw [hib] at HCB
  have HIA := Lib.hid hia
  clear hwa hwb hib ha hb hLA hLB hia
  obtain ⟨W0, hW0⟩ : ∃ W0, ((w.alloc (.cells #[.int .i64 a0, .int .i64 a1, .int .i64 a2, .int .i64 a3, .int .i64 a4, .int .i64 a5, .int .i64 a6] 23)).alloc (.cells #[.int .i64 b0, .int .i64 b1, .int .i64 b2, .int .i64 b3, .int .i64 b4, .int .i64 b5, .int .i64 b6] 23)).alloc (.cells #[.int .i64 0, .int .i64 0, .int .i64 0, .int .i64 0, .int .i64 0, .int .i64 0, .int .i64 0] 23) = W0 := ⟨_, rfl⟩
  have RA := Lib.hid (show Row W0 w.heap.size 23 #[.int .i64 a0, .int .i64 a1, .int .i64 a2, .int .i64 a3, .int .i64 a4, .int .i64 a5, .int .i64 a6] by rw [← hW0]; exact ((Row.new w _ _).alloc _).alloc _)
  have RB := Lib.hid (show Row W0 (w.heap.size + 1) 23 #[.int .i64 b0, .int .i64 b1, .int .i64 b2, .int .i64 b3, .int .i64 b4, .int .i64 b5, .int .i64 b6] by
    rw [← hW0]
    have := Row.new (w.alloc (.cells #[.int .i64 a0, .int .i64 a1, .int .i64 a2, .int .i64 a3, .int .i64 a4, .int .i64 a5, .int .i64 a6] 23)) 23 #[.int .i64 b0, .int .i64 b1, .int .i64 b2, .int .i64 b3, .int .i64 b4, .int .i64 b5, .int .i64 b6]
    rw [World.size_alloc] at this
    exact this.alloc _)
  have RR := Lib.hid (show Row W0 (w.heap.size + 1 + 1) 23 #[.int .i64 0, .int .i64 0, .int .i64 0, .int .i64 0, .int .i64 0, .int .i64 0, .int .i64 0] by
    rw [← hW0]
    have := Row.new ((w.alloc (.cells #[.int .i64 a0, .int .i64 a1, .int .i64 a2, .int .i64 a3, .int .i64 a4, .int .i64 a5, .int .i64 a6] 23)).alloc (.cells #[.int .i64 b0, .int .i64 b1, .int .i64 b2, .int .i64 b3, .int .i64 b4, .int .i64 b5, .int .i64 b6] 23)) 23 #[.int .i64 0, .int .i64 0, .int .i64 0, .int .i64 0, .int .i64 0, .int .i64 0, .int .i64 0]
    simp only [World.size_alloc] at this
    exact this)
  have HB := Lib.hid (show Below w.heap.size w W0 by rw [← hW0]; exact (((Below.refl _ w).alloc (Nat.le_refl _) _).alloc (by simp) _).alloc (by simp; omega) _)
  have HW0 := Lib.hid hW0
  clear hW0
  have x0 := RA.out.cell 0; have y0 := RB.out.cell 0; have x1 := RA.out.cell 1; have y1 := RB.out.cell 1; have x2 := RA.out.cell 2; have y2 := RB.out.cell 2; have x3 := RA.out.cell 3; have y3 := RB.out.cell 3; have x4 := RA.out.cell 4; have y4 := RB.out.cell 4; have x5 := RA.out.cell 5; have y5 := RB.out.cell 5; have x6 := RA.out.cell 6; have y6 := RB.out.cell 6
  have la_ := RA.out.lt; have lb_ := RB.out.lt
  cases hva : validW LA with
  | false =>
    rw [hva] at VA
    clear hva HMZ HAT HAA HCB HIA
    go_enter Tryd.func22, Tryd.ntmps22
    go_upto_region 1 with (fail)
    rw [HW0.out]
    go_upto_region 2 with (first | (go_at_call 7; (with_reducible refine Calls.mono (VA.out _) ?_); rintro r u1 ⟨rfl, hb⟩; have HB := Lib.hid (below_to HB.out hb); have RA := Lib.hid (RA.out.below hb RA.out.lt); have RB := Lib.hid (RB.out.below hb RB.out.lt); have RR := Lib.hid (RR.out.below hb RR.out.lt); clear x0 y0 x1 y1 x2 y2 x3 y3 x4 y4 x5 y5 x6 y6 la_ lb_; have x0 := RA.out.cell 0; have y0 := RB.out.cell 0; have x1 := RA.out.cell 1; have y1 := RB.out.cell 1; have x2 := RA.out.cell 2; have y2 := RB.out.cell 2; have x3 := RA.out.cell 3; have y3 := RB.out.cell 3; have x4 := RA.out.cell 4; have y4 := RB.out.cell 4; have x5 := RA.out.cell 5; have y5 := RB.out.cell 5; have x6 := RA.out.cell 6; have y6 := RB.out.cell 6; have la_ := RA.out.lt; have lb_ := RB.out.lt; clear hb) | (go_at_call 7; (with_reducible refine Calls.mono (VB.out _) ?_); rintro r u2 ⟨rfl, hb⟩; have HB := Lib.hid (below_to HB.out hb); have RA := Lib.hid (RA.out.below hb RA.out.lt); have RB := Lib.hid (RB.out.below hb RB.out.lt); have RR := Lib.hid (RR.out.below hb RR.out.lt); clear x0 y0 x1 y1 x2 y2 x3 y3 x4 y4 x5 y5 x6 y6 la_ lb_; have x0 := RA.out.cell 0; have y0 := RB.out.cell 0; have x1 := RA.out.cell 1; have y1 := RB.out.cell 1; have x2 := RA.out.cell 2; have y2 := RB.out.cell 2; have x3 := RA.out.cell 3; have y3 := RB.out.cell 3; have x4 := RA.out.cell 4; have y4 := RB.out.cell 4; have x5 := RA.out.cell 5; have y5 := RB.out.cell 5; have x6 := RA.out.cell 6; have y6 := RB.out.cell 6; have la_ := RA.out.lt; have lb_ := RB.out.lt; clear hb))
    obtain ⟨d0, d1, d2, d3, d4, d5, d6, f0, f1, f2, f3, f4, f5, f6⟩ := seven_cells (rowW RR.out)
    have lr := RR.out.lt
    clear VA VB
    go_wp2
    refine bodyPost_ret (results_wt rfl _ _ (w.heap.size + 1 + 1) [0, 0, 0, 0, 0, 0, 0] rfl (put7 (l := [0, 0, 0, 0, 0, 0, 0]) rfl (rowW RR.out) 0 0 0 0 0 0 0) rfl) rfl ⟨rfl, below7 HB.out (by omega) 0 0 0 0 0 0 0⟩
  | true =>
    rw [hva] at VA
    cases hvb : validW LB with
    | false =>
      rw [hvb] at VB
      clear hva hvb HMZ HAT HAA HCB HIA
      go_enter Tryd.func22, Tryd.ntmps22
      go_upto_region 1 with (fail)
      rw [HW0.out]
      go_upto_region 2 with (first | (go_at_call 7; (with_reducible refine Calls.mono (VA.out _) ?_); rintro r u1 ⟨rfl, hb⟩; have HB := Lib.hid (below_to HB.out hb); have RA := Lib.hid (RA.out.below hb RA.out.lt); have RB := Lib.hid (RB.out.below hb RB.out.lt); have RR := Lib.hid (RR.out.below hb RR.out.lt); clear x0 y0 x1 y1 x2 y2 x3 y3 x4 y4 x5 y5 x6 y6 la_ lb_; have x0 := RA.out.cell 0; have y0 := RB.out.cell 0; have x1 := RA.out.cell 1; have y1 := RB.out.cell 1; have x2 := RA.out.cell 2; have y2 := RB.out.cell 2; have x3 := RA.out.cell 3; have y3 := RB.out.cell 3; have x4 := RA.out.cell 4; have y4 := RB.out.cell 4; have x5 := RA.out.cell 5; have y5 := RB.out.cell 5; have x6 := RA.out.cell 6; have y6 := RB.out.cell 6; have la_ := RA.out.lt; have lb_ := RB.out.lt; clear hb) | (go_at_call 7; (with_reducible refine Calls.mono (VB.out _) ?_); rintro r u2 ⟨rfl, hb⟩; have HB := Lib.hid (below_to HB.out hb); have RA := Lib.hid (RA.out.below hb RA.out.lt); have RB := Lib.hid (RB.out.below hb RB.out.lt); have RR := Lib.hid (RR.out.below hb RR.out.lt); clear x0 y0 x1 y1 x2 y2 x3 y3 x4 y4 x5 y5 x6 y6 la_ lb_; have x0 := RA.out.cell 0; have y0 := RB.out.cell 0; have x1 := RA.out.cell 1; have y1 := RB.out.cell 1; have x2 := RA.out.cell 2; have y2 := RB.out.cell 2; have x3 := RA.out.cell 3; have y3 := RB.out.cell 3; have x4 := RA.out.cell 4; have y4 := RB.out.cell 4; have x5 := RA.out.cell 5; have y5 := RB.out.cell 5; have x6 := RA.out.cell 6; have y6 := RB.out.cell 6; have la_ := RA.out.lt; have lb_ := RB.out.lt; clear hb))
      obtain ⟨d0, d1, d2, d3, d4, d5, d6, f0, f1, f2, f3, f4, f5, f6⟩ := seven_cells (rowW RR.out)
      have lr := RR.out.lt
      clear VA VB
      go_wp2
      refine bodyPost_ret (results_wt rfl _ _ (w.heap.size + 1 + 1) [0, 0, 0, 0, 0, 0, 0] rfl (put7 (l := [0, 0, 0, 0, 0, 0, 0]) rfl (rowW RR.out) 0 0 0 0 0 0 0) rfl) rfl ⟨rfl, below7 HB.out (by omega) 0 0 0 0 0 0 0⟩
    | true =>
      rw [hvb] at VB
      have HMZ2 := Lib.hid (HMZ.out hva)
      have HT := Lib.hid (HAT.out hvb)
      have HL := Lib.hid (HAA.out hva)
      have HC := Lib.hid (combL_len fO LA LB)
      clear hva hvb HMZ HAT HAA
      go_enter Tryd.func22, Tryd.ntmps22
      go_upto_region 1 with (fail)
      rw [HW0.out]
      go_upto_region 3 with (first | (go_at_call 7; (with_reducible refine Calls.mono (VA.out _) ?_); rintro r u1 ⟨rfl, hb⟩; have HB := Lib.hid (below_to HB.out hb); have RA := Lib.hid (RA.out.below hb RA.out.lt); have RB := Lib.hid (RB.out.below hb RB.out.lt); have RR := Lib.hid (RR.out.below hb RR.out.lt); clear x0 y0 x1 y1 x2 y2 x3 y3 x4 y4 x5 y5 x6 y6 la_ lb_; have x0 := RA.out.cell 0; have y0 := RB.out.cell 0; have x1 := RA.out.cell 1; have y1 := RB.out.cell 1; have x2 := RA.out.cell 2; have y2 := RB.out.cell 2; have x3 := RA.out.cell 3; have y3 := RB.out.cell 3; have x4 := RA.out.cell 4; have y4 := RB.out.cell 4; have x5 := RA.out.cell 5; have y5 := RB.out.cell 5; have x6 := RA.out.cell 6; have y6 := RB.out.cell 6; have la_ := RA.out.lt; have lb_ := RB.out.lt; clear hb) | (go_at_call 7; (with_reducible refine Calls.mono (VB.out _) ?_); rintro r u2 ⟨rfl, hb⟩; have HB := Lib.hid (below_to HB.out hb); have RA := Lib.hid (RA.out.below hb RA.out.lt); have RB := Lib.hid (RB.out.below hb RB.out.lt); have RR := Lib.hid (RR.out.below hb RR.out.lt); clear x0 y0 x1 y1 x2 y2 x3 y3 x4 y4 x5 y5 x6 y6 la_ lb_; have x0 := RA.out.cell 0; have y0 := RB.out.cell 0; have x1 := RA.out.cell 1; have y1 := RB.out.cell 1; have x2 := RA.out.cell 2; have y2 := RB.out.cell 2; have x3 := RA.out.cell 3; have y3 := RB.out.cell 3; have x4 := RA.out.cell 4; have y4 := RB.out.cell 4; have x5 := RA.out.cell 5; have y5 := RB.out.cell 5; have x6 := RA.out.cell 6; have y6 := RB.out.cell 6; have la_ := RA.out.lt; have lb_ := RB.out.lt; clear hb))
      clear x0 x1 x2 x3 x4 x5 x6 y0 y1 y2 y3 y4 y5 y6 la_ lb_
      have RA2 := Lib.hid (show Row u2 w.heap.size 23 (ints (mixL fO LA LB 0)) by rw [HMZ2.out, HIA.out]; exact RA.out)
      go_wp2
      go_loopw [6] (fun i wr => ∃ k : Nat, k ≤ 7 ∧ i = .int .i64 (k : Int) ∧ Hid (Row wr w.heap.size 23 (ints (mixL fO LA LB k))) ∧ Hid (Row wr (w.heap.size + 1) 23 #[.int .i64 b0, .int .i64 b1, .int .i64 b2, .int .i64 b3, .int .i64 b4, .int .i64 b5, .int .i64 b6]) ∧ Hid (Row wr (w.heap.size + 1 + 1) 23 #[.int .i64 0, .int .i64 0, .int .i64 0, .int .i64 0, .int .i64 0, .int .i64 0, .int .i64 0]) ∧ Hid (Below w.heap.size w wr)) (fun i _ => 7 - (intOf i).toNat)
      case atStart => exact ⟨0, by omega, rfl, RA2, RB, RR, HB⟩
      case round =>
        clear RA2 RA RB RR HB
        obtain ⟨k, hk, rfl, RA, RB, RR, HB⟩ := hrel
        have i1 : (0 : Int) ≤ (k : Int) := by omega
        by_cases hlt : k < 7
        · have i2 : (k : Int) < 7 := by omega
          obtain ⟨t1, t2⟩ := HT.out k hlt
          have hl := HL.out k
          have ca := (RA.out.cell k).trans (mixL_at fO LA LB k hlt)
          have cb := (RB.out.cell k).trans ((HCB.out k).trans (by rw [t1]; first | done | rfl))
          have fa := RA.out.free k
          have lA := RA.out.lt; have lB := RB.out.lt
          have hbits := bits_or64 (hrs LA k) (hrs LB k) (by omega) (by omega)
          have HP := Lib.hid (show (ints (mixL fO LA LB k)).setIfInBounds k (.int .i64 (((hrs LA k) ||| (hrs LB k) : Nat) : Int)) = ints (mixL fO LA LB (k + 1)) from mixL_put fO LA LB k hlt)
          have hres : (hrs LA k) ||| (hrs LB k) ≤ 16777215 := le_or (by omega) (by omega)
          (try dsimp only at hres)
          obtain ⟨p, hp⟩ : ∃ p, hrs LA k = p := ⟨_, rfl⟩
          obtain ⟨q, hq⟩ : ∃ q, hrs LB k = q := ⟨_, rfl⟩
          rw [hp, hq] at hbits HP hres
          rw [hp] at ca
          rw [hq] at cb
          obtain ⟨z, hz⟩ : ∃ z, p ||| q = z := ⟨_, rfl⟩
          (try dsimp only at HP)
          rw [hz] at hbits HP hres
          clear hp hq hz t1 t2 hl
          go_wp2
          go_still_tail 9, (by kernel_rfl)
          change wpList _ _ _ _ _ wr.drew
          go_wp2
          go_roundw
          case rel => exact ⟨k + 1, by omega, by go_num, Lib.hid (by rw [← HP.out]; exact (Row.put (RA.out) k _)), Lib.hid ((Row.far RB.out (p := ⟨w.heap.size, k, none⟩) (by dsimp only; omega) _)), Lib.hid ((Row.far RR.out (p := ⟨w.heap.size, k, none⟩) (by dsimp only; omega) _)), Lib.hid (Below.drew (Below.setCell (HB.out) (p := ⟨w.heap.size, k, none⟩) (by dsimp only; omega) _))⟩
          case measure => simp [intOf]; omega
        · have hk7 : k = 7 := by omega
          subst hk7
          have ra := RA.out
          rw [mixL_all] at ra
          obtain ⟨p0, p1, p2, p3, p4, p5, p6, hp⟩ := seven HC.out
          rw [hp] at ra
          obtain ⟨c0, c1, c2, c3, c4, c5, c6, -⟩ := seven_cells ra
          obtain ⟨d0, d1, d2, d3, d4, d5, d6, f0, f1, f2, f3, f4, f5, f6⟩ := seven_cells (rowW RR.out)
          have lA := RA.out.lt; have lR := RR.out.lt
          have HP := Lib.hid hp
          clear ra hp
          go_wp2
          refine bodyPost_ret (results_wt rfl _ _ (w.heap.size + 1 + 1) [p0, p1, p2, p3, p4, p5, p6] rfl (put7 (l := [0, 0, 0, 0, 0, 0, 0]) rfl (rowW RR.out) p0 p1 p2 p3 p4 p5 p6) rfl) rfl ⟨by rw [← HP.out]; rfl, below7 HB.out (by omega) p0 p1 p2 p3 p4 p5 p6⟩
end Go.Proofs.YtmfpaankkoaoaaaDoor
