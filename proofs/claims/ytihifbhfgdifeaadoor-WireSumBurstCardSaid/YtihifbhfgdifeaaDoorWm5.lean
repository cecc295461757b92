/- The walk of WireSumBurst: where the table reads as laid, it returns true for every input. -/
import Derived.Test.YtihifbhfgdifeaaDoorWm4
import Derived.Test.YtihifbhfgdifeaaDoorWe2
namespace Go.Proofs.YtihifbhfgdifeaaDoor
open Go.RowKit

/-- The row of bytes that '[]byte(..)' made holds these. -/
def RowB (w : World) (B : Nat) (L : List UInt8) : Prop := ∀ j, j < L.length → w.cell? ⟨B, j, none⟩ = some (.int .u8 ((L.getD j 0).toNat : Int)) ∧ w.frozen? ⟨B, j, none⟩ = false
theorem RowB.set {w : World} {B k : Nat} {L : List UInt8} {b : UInt8} (h : RowB w B L) (hk : k < L.length) : RowB (w.setCell ⟨B, k, none⟩ (.int .u8 (b.toNat : Int))) B (L.set k b) := by
  intro j hj
  rw [List.length_set] at hj
  refine ⟨?_, by rw [World.frozen?_setCell]; exact (h j hj).2⟩
  by_cases hjk : j = k
  · subst hjk
    rw [World.cell?_setCell_same' _ _ _ (by rw [(h j hj).1]; rfl)]
    simp [hk]
  · have e : (L.set k b).getD j 0 = L.getD j 0 := by simp [Ne.symm hjk]
    rw [e, ← (h j hj).1]
    exact World.cell?_setCell_other w _ _ _ (by intro e; cases e; exact hjk rfl)
theorem RowB.string {w : World} {B : Nat} {L : List UInt8} (h : RowB w B L) (cap n : Nat) (hn : L.length = n) :
    Sem.run Tryd.prog (Go.convert 38 9 (.slice (some ⟨B, 0, none⟩) n cap)) w = .ok (.string (bs L)) w := by
  subst hn
  refine run_convert_bytes_back w 38 9 5 ⟨B, 0, none⟩ cap L Tryd.underlying38 Tryd.underlying5 Tryd.underlying9 fun j hj => ?_
  rw [show (⟨B, 0, none⟩ : Addr).add j = ⟨B, j, none⟩ from by simp [Addr.add]; omega, (h j hj).1]
  simp [List.getElem?_eq_getElem hj]
theorem RowB.made (w : World) (u : ByteArray) (cap : Nat) : RowB (w.drew.alloc (.cells (bytesRow u cap) 5 ((bytesRow u cap).size, (bytesRow u cap).size + 1))) w.heap.size u.data.toList := by
  intro j hj
  have hj2 : j < u.data.size := by simpa using hj
  have hsz : u.data.size ≤ (bytesRow u cap).size := by simp [bytesRow]
  constructor
  · have := World.cell?_alloc_mark w.drew (bytesRow u cap) 5 ((bytesRow u cap).size, (bytesRow u cap).size + 1) j
    rw [show w.drew.heap.size = w.heap.size from rfl] at this
    rw [this, bytesRow_at u cap j hj2]
    simp [List.getElem?_eq_getElem hj]
  · have := World.frozen?_alloc_mark w.drew (bytesRow u cap) 5 (bytesRow u cap).size ((bytesRow u cap).size + 1) j
    rw [show w.drew.heap.size = w.heap.size from rfl] at this
    rw [this]; simp; omega

theorem bit_test (bt i : Nat) : ((bt : Int) / 2 ^ i).tmod 2 = ((bt / 2 ^ i % 2 : Nat) : Int) := by
  have h : ((bt : Int) / 2 ^ i) = ((bt / 2 ^ i : Nat) : Int) := by push_cast; rfl
  rw [h, Int.tmod_eq_emod_of_nonneg (Int.natCast_nonneg _)]; rfl

set_option maxRecDepth 100000 in
set_option maxHeartbeats 2000000 in
theorem burst_walk (s : ByteArray) (at_ : Int) (bt : Int) (w : World) (ht : TabOk w) (hs : s.size ≤ maxLen) (ha1 : -9223372036854775808 ≤ at_) (ha2 : at_ ≤ 9223372036854775807) (hb1 : 0 ≤ bt) (hb2 : bt ≤ 4294967295) :
    Calls Tryd.prog 8 #[.string s, .int .i64 at_, .int .u32 bt] w fun e w' => e = .returned (.bool true) ∧ Below w.heap.size w w' := by
  obtain ⟨bt, rfl⟩ := Int.eq_ofNat_of_zero_le hb1
  obtain ⟨u, hu⟩ : ∃ u, s.extract 0 (min (s.size : Int) 300).toNat = u := ⟨_, rfl⟩
  have hus := cut_size hu
  have hux : s.extract 0 u.size = u := by
    have e : (min (s.size : Int) 300).toNat = u.size := by
      have := congrArg ByteArray.size hu
      rw [ByteArray.size_extract] at this
      omega
    rw [← e, hu]
  have hsn := fun w h => sane_any w h
  unfold maxLen at hs
  have H0 := Lib.hid hsn; clear hsn
  have HT := Lib.hid ht; clear ht
  obtain ⟨cp, hcp⟩ : ∃ cp : World → Nat, cp = fun w => grownCap w u.size 0 5 := ⟨_, rfl⟩
  have hcv0 : ∀ w, Sem.run Tryd.prog (Go.convert 9 38 (.string u)) w = .ok (.slice (some ⟨w.heap.size, 0, none⟩) u.size (cp w)) (w.drew.alloc (.cells (bytesRow u (cp w)) 5 ((bytesRow u (cp w)).size, (bytesRow u (cp w)).size + 1))) := fun w => by
    rw [hcp]
    exact run_bytes_of_string w 9 38 5 u Tryd.underlying9 Tryd.underlying38 Tryd.underlying5
  clear hcp
  have HX := Lib.hid hux; clear hux
  by_cases hn : u.size = 0
  · have hs0 : ((u.size : Int) == 0) = true := by rw [beq_iff_eq]; omega
    have HZ := Lib.hid hn; clear hn
    go_enter Tryd.func8, Tryd.ntmps8
    go_wp2_with fail
    refine (H0.out _ HT.out).mono ?_
    rintro e w1 ⟨rfl, b1⟩
    go_wp2
    go_ret
    exact ⟨rfl, (b1.alloc b1.size _).drew⟩
  by_cases hz : bt = 0
  · subst hz
    have hnb : ((u.size : Int) == 0) = false := by rw [beq_eq_false_iff_ne]; omega
    go_enter Tryd.func8, Tryd.ntmps8
    go_wp2_with fail
    refine (H0.out _ HT.out).mono ?_
    rintro e w1 ⟨rfl, b1⟩
    go_wp2
    go_ret
    exact ⟨rfl, (b1.alloc b1.size _).drew⟩
  have hnb : ((u.size : Int) == 0) = false := by rw [beq_eq_false_iff_ne]; omega
  have hzb : ((bt : Int) == 0) = false := by rw [beq_eq_false_iff_ne]; omega
  have hpk := fun w => pick_any at_ (8 * u.size) w ha1 ha2 (by omega) (by omega)
  obtain ⟨fr, e1, l1⟩ : ∃ k : Nat, pickZ at_ (8 * (u.size : Int)) = k ∧ k < 8 * u.size := by
    have := pickZ_bd at_ (8 * (u.size : Int)) (by omega)
    exact ⟨(pickZ at_ (8 * (u.size : Int))).toNat, by omega, by omega⟩
  rw [e1] at hpk
  clear e1
  have H1 := Lib.hid hpk; clear hpk
  go_enter Tryd.func8, Tryd.ntmps8
  go_wp2_with fail
  refine (H0.out _ HT.out).mono ?_
  rintro e w1 ⟨rfl, b1⟩
  go_wp2_with fail
  refine (H1.out _).mono ?_
  rintro e w' ⟨rfl, rfl⟩
  go_wp2_with fail
  have hR0 := RowB.made w1 u (cp w1)
  have hB0 : Below w1.heap.size w1 (w1.drew.alloc (.cells (bytesRow u (cp w1)) 5 ((bytesRow u (cp w1)).size, (bytesRow u (cp w1)).size + 1))) := ((Below.refl _ w1).drew).alloc (Nat.le_refl _) _
  have hUl : u.data.toList.length = u.size := by simp
  have HUl := Lib.hid hUl; clear hUl
  go_loopw [10, 11, 12] (fun c x _ wr => ∃ (i : Nat) (L : List UInt8) (ch : Bool), i ≤ 32 ∧ Flipped u.data.toList L fr bt i ∧ (ch = true ↔ bt % 2 ^ i ≠ 0) ∧ c = .bool ch ∧ x = .int .i64 i ∧ RowB wr w1.heap.size L ∧ Below w1.heap.size w1 wr) (fun _ x _ _ => 32 - (intOf x).toNat)
  case atStart => exact ⟨0, u.data.toList, false, by omega, Flipped.start _ _ _, by simp [Nat.mod_one], rfl, rfl, hR0, hB0⟩
  case round =>
    obtain ⟨i, L, ch, hi, hF, hch, rfl, rfl, hR, hB⟩ := hrel
    have HR := Lib.hid hR; have HF := Lib.hid hF; have HC := Lib.hid hch; clear hR hF hch hR0 hB0
    by_cases h32 : i < 32
    · by_cases hlt : fr + i < 8 * u.size
      · by_cases hbit : bt / 2 ^ i % 2 = 1
        · obtain ⟨k, hk⟩ : ∃ k, fr + i = k := ⟨_, rfl⟩
          have hki : (fr : Int) + i = k := by omega
          have hbb : (((bt : Int) / 2 ^ i).tmod 2 == 1) = true := by rw [beq_iff_eq, bit_test, hbit]; rfl
          have HB := Lib.hid hbit; have HK := Lib.hid hk; clear hbit
          have hk8 : k / 8 < u.size := by omega
          have hkL : k / 8 < L.length := by rw [HF.out.1, HUl.out]; exact hk8
          have hcell := (HR.out (k / 8) hkL).1
          have hfr := (HR.out (k / 8) hkL).2
          obtain ⟨old, hold⟩ : ∃ b, L.getD (k / 8) 0 = b := ⟨_, rfl⟩
          rw [hold] at hcell
          have HO := Lib.hid hold; clear hold hk
          have hob := old.toNat_lt
          have hp8 : 2 ^ (k % 8) < 256 := by
            have h1 : 2 ^ (k % 8) ≤ 2 ^ 7 := Nat.pow_le_pow_right (by decide) (by omega)
            have h2 : (2 : Nat) ^ 7 = 128 := by decide
            omega
          obtain ⟨nb, hnb2⟩ : ∃ nb : UInt8, nb.toNat = old.toNat ^^^ 2 ^ (k % 8) := ⟨UInt8.ofNat (old.toNat ^^^ 2 ^ (k % 8)), Wm.u8_ofNat _ (Nat.xor_lt_two_pow (n := 8) (by omega) (by omega))⟩
          have e2 : bits .xor .u8 (old.toNat : Int) (2 ^ (k % 8) % 256) = (nb.toNat : Int) := by
            have : ((2 : Int) ^ (k % 8) % 256) = ((2 ^ (k % 8) : Nat) : Int) := by
              have h3 : ((2 : Int) ^ (k % 8)) = ((2 ^ (k % 8) : Nat) : Int) := by push_cast; rfl
              rw [h3]
              generalize 2 ^ (k % 8) = p at hp8 ⊢
              omega
            rw [this, u8_xor_nat _ _ hob hp8, hnb2]
          have E2 := Lib.hid e2; clear e2
          have HN := Lib.hid hnb2; clear hnb2 hp8 hob
          go_wp2
          go_region
          all_goals
            go_wp2
            go_roundw
            case rel =>
              refine ⟨i + 1, L.set (k / 8) nb, true, by omega, HF.out.flip HB.out HK.out (by rw [HUl.out]; omega) (by rw [HO.out]; exact HN.out), ?_, rfl, by go_num, ?_, ?_⟩
              · have := low_pos_next bt i HB.out; simp [this]
              · rw [E2.out]; exact (HR.out).set hkL
              · exact (hB.setCell (p := ⟨w1.heap.size, k / 8, none⟩) (Nat.le_refl _) _).drew
            case measure => simp [intOf]; omega
        · have hbb : (((bt : Int) / 2 ^ i).tmod 2 == 1) = false := by rw [beq_eq_false_iff_ne, bit_test]; omega
          have HB := Lib.hid hbit; clear hbit
          go_wp2
          go_roundw
          case rel => exact ⟨i + 1, L, ch, by omega, HF.out.skip HB.out, by rw [HC.out]; exact not_congr (low_zero_next bt i HB.out).symm, rfl, by go_num, HR.out, hB⟩
          case measure => simp [intOf]; omega
      · have dB : Below w.heap.size w wr := below_chain b1 b1.size hB
        have tr := HT.out.next dB
        have hcv : ∀ q, Sem.run Tryd.prog (Go.convert 38 9 (.slice (some ⟨w1.heap.size, 0, none⟩) u.size (cp w1))) (wr.drewN q) = .ok (.string (bs L)) (wr.drewN q) := fun q =>
          RowB.string (w := wr.drewN q) (B := w1.heap.size) (L := L) HR.out (cp w1) u.size (by rw [HF.out.1, HUl.out])
        have kX := fun q => sum_quiet (bs L) wr q (by rw [bs_size, HF.out.1, HUl.out]; unfold maxLen; omega) tr
        rw [bs_list] at kX
        have kU := fun q => sum_quiet u wr q (by unfold maxLen; omega) tr
        have hcr := HF.out.crc (by rw [HUl.out]; omega) hi
        obtain ⟨cX, hcX⟩ : ∃ x, Wm.crc L = x := ⟨_, rfl⟩
        obtain ⟨cU, hcU⟩ : ∃ x, Wm.crc u.data.toList = x := ⟨_, rfl⟩
        rw [hcX] at kX hcr
        rw [hcU] at kU hcr
        obtain ⟨X, hX⟩ : ∃ X, bs L = X := ⟨_, rfl⟩
        rw [hX] at kX hcv
        have hxx := HX.out
        clear hX hcX hcU
        have KX := Lib.hid kX; have KU := Lib.hid kU; clear kX kU
        have HTr := Lib.hid tr; clear tr
        by_cases hw : bt % 2 ^ i = 0
        · obtain rfl : cX = cU := hcr.2 hw
          obtain rfl : ch = false := by
            cases ch
            · rfl
            · exact absurd hw (HC.out.1 rfl)
          clear hw hcr
          go_wp2
          go_quiet (first | (go_at_call 21; (with_reducible refine Calls.quiet_of_same (KX.out _))) | (go_at_call 21; (with_reducible refine Calls.quiet_of_same (KU.out _))))
          go_wp2
          go_ret
          exact ⟨by simp, ⟨dB.os, dB.tape, dB.output, dB.size, dB.block⟩⟩
        · have hne : ((cX : Int) == cU) = false := by
            rw [beq_eq_false_iff_ne]
            intro h
            exact hw (hcr.1 (by omega))
          obtain rfl : ch = true := HC.out.2 hw
          clear hw hcr
          go_wp2
          go_quiet (first | (go_at_call 21; (with_reducible refine Calls.quiet_of_same (KX.out _))) | (go_at_call 21; (with_reducible refine Calls.quiet_of_same (KU.out _))))
          go_wp2
          go_ret
          exact ⟨by simp [bne, hne], ⟨dB.os, dB.tape, dB.output, dB.size, dB.block⟩⟩
    · have dB : Below w.heap.size w wr := below_chain b1 b1.size hB
      have tr := HT.out.next dB
      have hcv : ∀ q, Sem.run Tryd.prog (Go.convert 38 9 (.slice (some ⟨w1.heap.size, 0, none⟩) u.size (cp w1))) (wr.drewN q) = .ok (.string (bs L)) (wr.drewN q) := fun q =>
        RowB.string (w := wr.drewN q) (B := w1.heap.size) (L := L) HR.out (cp w1) u.size (by rw [HF.out.1, HUl.out])
      have kX := fun q => sum_quiet (bs L) wr q (by rw [bs_size, HF.out.1, HUl.out]; unfold maxLen; omega) tr
      rw [bs_list] at kX
      have kU := fun q => sum_quiet u wr q (by unfold maxLen; omega) tr
      have hcr := HF.out.crc (by rw [HUl.out]; omega) hi
      obtain ⟨cX, hcX⟩ : ∃ x, Wm.crc L = x := ⟨_, rfl⟩
      obtain ⟨cU, hcU⟩ : ∃ x, Wm.crc u.data.toList = x := ⟨_, rfl⟩
      rw [hcX] at kX hcr
      rw [hcU] at kU hcr
      obtain ⟨X, hX⟩ : ∃ X, bs L = X := ⟨_, rfl⟩
      rw [hX] at kX hcv
      have hxx := HX.out
      clear hX hcX hcU
      have KX := Lib.hid kX; have KU := Lib.hid kU; clear kX kU
      have HTr := Lib.hid tr; clear tr
      by_cases hw : bt % 2 ^ i = 0
      · obtain rfl : cX = cU := hcr.2 hw
        obtain rfl : ch = false := by
          cases ch
          · rfl
          · exact absurd hw (HC.out.1 rfl)
        clear hw hcr
        go_wp2
        go_quiet (first | (go_at_call 21; (with_reducible refine Calls.quiet_of_same (KX.out _))) | (go_at_call 21; (with_reducible refine Calls.quiet_of_same (KU.out _))))
        go_wp2
        go_ret
        exact ⟨by simp, ⟨dB.os, dB.tape, dB.output, dB.size, dB.block⟩⟩
      · have hne : ((cX : Int) == cU) = false := by
          rw [beq_eq_false_iff_ne]
          intro h
          exact hw (hcr.1 (by omega))
        obtain rfl : ch = true := HC.out.2 hw
        clear hw hcr
        go_wp2
        go_quiet (first | (go_at_call 21; (with_reducible refine Calls.quiet_of_same (KX.out _))) | (go_at_call 21; (with_reducible refine Calls.quiet_of_same (KU.out _))))
        go_wp2
        go_ret
        exact ⟨by simp [bne, hne], ⟨dB.os, dB.tape, dB.output, dB.size, dB.block⟩⟩
end Go.Proofs.YtihifbhfgdifeaaDoor
