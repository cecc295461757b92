/- The long fraction that four integers determine: its digits, and the walk of Long. -/
import Derived.Test.YtabkodpjhpjgnaaGreatDoorQu
namespace Go.Proofs.YtabkodpjhpjgnaaGreatDoor
open Go.RowKit Go.Shelf

/-- The digits that a number begins: it goes on as Long's does. -/
def lcs (c : Nat) : Nat → Nat
  | 0 => c
  | j + 1 => (lcs c j * 48271 + 11) % 2147483647
def ldg (c : Nat) : Nat → List UInt8
  | 0 => []
  | j + 1 => ldg c j ++ [UInt8.ofNat (48 + lcs c (j + 1) / 65536 % 10)]
theorem ldg_len (c : Nat) : ∀ j, (ldg c j).length = j
  | 0 => rfl
  | j + 1 => by show (ldg c j ++ [_]).length = _; rw [List.length_append, ldg_len c j]; rfl
theorem lcs_lt (c j : Nat) (hc : c < 2147483647) : lcs c j < 2147483647 := by
  cases j with
  | zero => exact hc
  | succ j => exact Nat.mod_lt _ (by decide)
theorem digit_nat (n : Nat) : (UInt8.ofNat (48 + n % 10)).toNat = 48 + n % 10 := by
  rw [UInt8.toNat_ofNat']; omega
theorem ldg_digs (c : Nat) : ∀ j, Im.digs (ldg c j) = true
  | 0 => rfl
  | j + 1 => by
    show Im.digs (ldg c j ++ [_]) = true
    rw [Im.digs_snoc, digit_nat]
    exact ⟨ldg_digs c j, by omega, by omega⟩
theorem dv_zero (l : List UInt8) : Im.dv (48 :: l) = Im.dv l := by
  rw [show (48 : UInt8) :: l = [48] ++ l from rfl, Im.dv_append]
  show 0 * _ + _ = _
  omega
/-- Digits without leading zeros are the text of their number. -/
theorem txt_of_digs (l : List UInt8) (h : Im.digs l = true) (h0 : l ≠ []) (h1 : ∀ c r, l = c :: r → r ≠ [] → c ≠ 48) : l = Lib.itoa ((Im.dv l : Nat) : Int) := by
  rw [pos_itoa (by omega), Int.natAbs_natCast]
  cases l with
  | nil => exact absurd rfl h0
  | cons c r =>
    by_cases hc : c = 48
    · have hr : r = [] := by
        by_cases hr : r = []
        · exact hr
        · exact absurd hc (h1 c r rfl hr)
      subst hc; subst hr
      decide +kernel
    · refine (Im.dd_of (c :: r) h h0 (fun c2 r2 e => ?_)).2
      obtain ⟨rfl, _⟩ := List.cons.inj e
      intro e2
      exact hc (UInt8.toNat_inj.1 e2)
/-- The numerator or denominator before its sign: digits of the c-th number. -/
def longN (x y : Int) : Nat := Im.dv (ldg (pickN x 1000000007) (1 + pickN y 100))
theorem longN_lt (x y : Int) : longN x y < 10 ^ 100 := by
  have h1 := Im.dv_lt _ (ldg_digs (pickN x 1000000007) (1 + pickN y 100))
  have h2 := pickN_lt y 100 (by decide)
  rw [ldg_len] at h1
  exact Nat.lt_of_lt_of_le h1 (Nat.pow_le_pow_right (by decide) (by omega))

def longNum (x0 x1 : Int) : Int := if pickN x0 2 = 0 ∧ longN x0 x1 ≠ 0 then -((longN x0 x1 : Nat) : Int) else ((longN x0 x1 : Nat) : Int)
def longDen (x2 x3 : Int) : Int := if longN x2 x3 = 0 then 7 else ((longN x2 x3 : Nat) : Int)
/-- The long fraction. -/
def longQ (x0 x1 x2 x3 : Int) : Rat := Rat.divInt (longNum x0 x1) (longDen x2 x3)
theorem longNum_ok (x0 x1 : Int) : okz (longNum x0 x1) = true := decide_eq_true (by
  have h := longN_lt x0 x1
  have h2 : (10 : Nat) ^ 100 ≤ 10 ^ 200 := by decide +kernel
  unfold longNum; split <;> omega)
theorem longDen_ok (x2 x3 : Int) : okz (longDen x2 x3) = true := decide_eq_true (by
  have h := longN_lt x2 x3
  have h2 : (10 : Nat) ^ 100 ≤ 10 ^ 200 := by decide +kernel
  have h3 : (7 : Nat) < 10 ^ 200 := by decide +kernel
  unfold longDen; split <;> omega)
theorem longDen_pos (x2 x3 : Int) : 0 < longDen x2 x3 := by unfold longDen; split <;> omega
/-- The trimming loop's state: digits of the same number. -/
def TrimAt (N : Nat) (v : Value) : Prop := ∃ l : List UInt8, v = .string (bs l) ∧ Im.digs l = true ∧ l ≠ [] ∧ Im.dv l = N ∧ l.length ≤ 200
theorem conv1 (d : Nat) (hd : d < 256) (w : World) :
    Sem.run Tryz.prog (Go.convert 48 9 (.slice (some ⟨w.heap.size, 0, none⟩) 1 1)) (w.alloc (.cells #[.int .u8 (d : Int)] 5)) = .ok (strOf [UInt8.ofNat d]) (w.alloc (.cells #[.int .u8 (d : Int)] 5)) := by
  have hc : (w.alloc (.cells #[.int .u8 (d : Int)] 5)).cell? ⟨w.heap.size, 0, none⟩ = some (.int .u8 (d : Int)) := (Row.new w _ _).cell 0
  refine run_convert_bytes_back _ 48 9 5 ⟨w.heap.size, 0, none⟩ 1 [UInt8.ofNat d] Tryz.underlying48 Tryz.underlying5 Tryz.underlying9 fun j hj => ?_
  obtain rfl : j = 0 := by simp at hj; omega
  refine hc.trans ?_
  simp [UInt8.toNat_ofNat']
  omega
def outCells (T0 T1 : ByteArray) (k : Nat) : Array Value := #[.string (if 1 ≤ k then T0 else ⟨#[]⟩), .string (if 2 ≤ k then T1 else ⟨#[]⟩)]
theorem outCells_put (T0 T1 : ByteArray) (k : Nat) (hk : k < 2) : (outCells T0 T1 k).setIfInBounds k (.string (if k = 0 then T0 else T1)) = outCells T0 T1 (k + 1) := by
  rcases (by omega : k = 0 ∨ k = 1) with rfl | rfl <;> rfl

set_option maxRecDepth 100000 in
set_option maxHeartbeats 8000000 in
theorem long_walk (x0 x1 x2 x3 : Int) (b0 : -9223372036854775808 ≤ x0 ∧ x0 ≤ 9223372036854775807) (b1 : -9223372036854775808 ≤ x1 ∧ x1 ≤ 9223372036854775807) (b2 : -9223372036854775808 ≤ x2 ∧ x2 ≤ 9223372036854775807) (b3 : -9223372036854775808 ≤ x3 ∧ x3 ≤ 9223372036854775807) (w : World) (ht : TabP w) :
    Calls Tryz.prog 13 #[.agg #[.int .i64 x0, .int .i64 x1, .int .i64 x2, .int .i64 x3]] w fun e w' => e = .returned (qv (longQ x0 x1 x2 x3)) ∧ Below w.heap.size w w' := by
  have PK : Hid (∀ (c : Int) (n : Nat), 0 < n → n ≤ 9223372036854775807 → -9223372036854775808 ≤ c → c ≤ 9223372036854775807 → ∀ w, Calls Tryz.prog 46 #[.int .i64 c, .int .i64 (n : Int)] w fun e w' => e = .returned (.int .i64 ((pickN c n : Nat) : Int)) ∧ w = w') := Lib.hid pick04_any
  have HT := Lib.hid ht
  have HMK : Hid (CallT 28 #[strOf (Lib.itoa (longNum x0 x1)), strOf (Lib.itoa (longDen x2 x3))] (.tuple #[rvB (bs (Lib.itoa (longQ x0 x1 x2 x3).num)) (bs (Lib.itoa (((longQ x0 x1 x2 x3).den : Nat) : Int))), .int .i64 0])) := Lib.hid (rmake_ok (longNum x0 x1) (longDen x2 x3) (longNum_ok _ _) (longDen_ok _ _) (by have := longDen_pos x2 x3; omega))
  unfold qv rv strOf
  generalize bs (Lib.itoa (longQ x0 x1 x2 x3).num) = NN at *
  generalize bs (Lib.itoa (((longQ x0 x1 x2 x3).den : Nat) : Int)) = DD at *
  obtain ⟨W, hW⟩ : ∃ W, ((w.alloc (.cells #[.int .i64 x0, .int .i64 x1, .int .i64 x2, .int .i64 x3] 24)).alloc (.cells #[.string ⟨#[]⟩, .string ⟨#[]⟩] 23)).alloc (.cells #[.string ⟨#[]⟩, .string ⟨#[]⟩] 64) = W := ⟨_, rfl⟩
  have hx : Row W w.heap.size 24 #[.int .i64 x0, .int .i64 x1, .int .i64 x2, .int .i64 x3] := by rw [← hW]; exact ((Row.new w _ _).alloc _).alloc _
  have ho : Row W (w.heap.size + 1) 23 #[.string ⟨#[]⟩, .string ⟨#[]⟩] := by
    rw [← hW]
    have := (Row.new (w.alloc (.cells #[.int .i64 x0, .int .i64 x1, .int .i64 x2, .int .i64 x3] 24)) 23 #[.string ⟨#[]⟩, .string ⟨#[]⟩]).alloc (.cells #[.string ⟨#[]⟩, .string ⟨#[]⟩] 64)
    rw [World.size_alloc] at this; exact this
  obtain ⟨T0, hT0⟩ : ∃ T, bs (Lib.itoa ((longN x0 x1 : Nat) : Int)) = T := ⟨_, rfl⟩
  obtain ⟨T1, hT1⟩ : ∃ T, bs (Lib.itoa ((longN x2 x3 : Nat) : Int)) = T := ⟨_, rfl⟩
  have hr : Row W (w.heap.size + 1 + 1) 64 (outCells T0 T1 0) := by
    rw [← hW]
    have := Row.new ((w.alloc (.cells #[.int .i64 x0, .int .i64 x1, .int .i64 x2, .int .i64 x3] 24)).alloc (.cells #[.string ⟨#[]⟩, .string ⟨#[]⟩] 23)) 64 #[.string ⟨#[]⟩, .string ⟨#[]⟩]
    rw [World.size_alloc, World.size_alloc] at this; exact this
  have hb : Below w.heap.size w W := by rw [← hW]; exact (((Below.refl _ _).alloc (Nat.le_refl _) _).alloc (by simp) _).alloc (by simp; omega) _
  have HW := Lib.hid hW; have HX := Lib.hid hx; have HO := Lib.hid ho; have HR := Lib.hid hr; have HB := Lib.hid hb
  have HT0 := Lib.hid hT0; have HT1 := Lib.hid hT1
  have HBD := Lib.hid (And.intro (And.intro b0 b1) (And.intro b2 b3))
  clear hW hx ho hr hb hT0 hT1 b0 b1 b2 b3 ht
  go_enter Tryz.func13, Tryz.ntmps13
  go_wp2
  rw [HW.out]
  go_loopw [4] (fun i wr => ∃ k : Nat, k ≤ 2 ∧ i = .int .i64 (k : Int) ∧ Hid (Row wr w.heap.size 24 #[.int .i64 x0, .int .i64 x1, .int .i64 x2, .int .i64 x3]) ∧ Hid (Row wr (w.heap.size + 1) 23 #[.string ⟨#[]⟩, .string ⟨#[]⟩]) ∧ Hid (Row wr (w.heap.size + 1 + 1) 64 (outCells T0 T1 k)) ∧ Hid (Below w.heap.size w wr)) (fun i _ => (2 - intOf i).toNat)
  case atStart => exact ⟨0, by omega, by go_num, HX, HO, HR, HB⟩
  case round =>
    obtain ⟨k, hk, rfl, HX, HO, HR, HB⟩ := hrel
    by_cases hlt : k < 2
    · obtain ⟨xi, hxi⟩ : ∃ x, (if k = 0 then x0 else x2) = x := ⟨_, rfl⟩
      obtain ⟨xj, hxj⟩ : ∃ x, (if k = 0 then x1 else x3) = x := ⟨_, rfl⟩
      have c0 : wr.cell? ⟨w.heap.size, 2 * k, none⟩ = some (.int .i64 xi) := by
        rw [HX.out.cell, ← hxi]; rcases (by omega : k = 0 ∨ k = 1) with rfl | rfl <;> rfl
      have c1 : wr.cell? ⟨w.heap.size, 2 * k + 1, none⟩ = some (.int .i64 xj) := by
        rw [HX.out.cell, ← hxj]; rcases (by omega : k = 0 ∨ k = 1) with rfl | rfl <;> rfl
      have bi : -9223372036854775808 ≤ xi ∧ xi ≤ 9223372036854775807 := by
        rw [← hxi]; split
        · exact HBD.out.1.1
        · exact HBD.out.2.1
      have bj : -9223372036854775808 ≤ xj ∧ xj ≤ 9223372036854775807 := by
        rw [← hxj]; split
        · exact HBD.out.1.2
        · exact HBD.out.2.2
      have P1 := Lib.hid (PK.out xj 100 (by decide) (by decide) bj.1 bj.2)
      have P2 := Lib.hid (PK.out xi 1000000007 (by decide) (by decide) bi.1 bi.2)
      obtain ⟨nj, hnj⟩ : ∃ n, pickN xj 100 = n := ⟨_, rfl⟩
      obtain ⟨ci, hci⟩ : ∃ n, pickN xi 1000000007 = n := ⟨_, rfl⟩
      have lnj : nj < 100 := hnj ▸ pickN_lt xj 100 (by decide)
      have lci : ci < 1000000007 := hci ▸ pickN_lt xi 1000000007 (by decide)
      have HI := Lib.hid hxi; have HJ := Lib.hid hxj; have HN := Lib.hid hnj; have HC := Lib.hid hci
      rw [hnj] at P1
      rw [hci] at P2
      have i0 : (0 : Int) ≤ (k : Int) := by omega
      clear hxi hxj hnj hci bi bj
      go_wp2_with (first | (go_at_call 46; ((with_reducible refine Calls.mono (P1.out _) ?_); rintro e w1 ⟨rfl, rfl⟩)) | (go_at_call 46; ((with_reducible refine Calls.mono (P2.out _) ?_); rintro e w2 ⟨rfl, rfl⟩)))
      obtain ⟨wo, hwo⟩ : ∃ wo : World, wo = wr := ⟨_, rfl⟩
      subst hwo
      have lci2 : ci < 2147483647 := by omega
      clear c0 c1 P1 P2
      go_loopw [6, 7] (fun s c wq => ∃ j : Nat, j ≤ nj + 1 ∧ s = .string (bs (ldg ci j)) ∧ c = .int .i64 ((lcs ci j : Nat) : Int) ∧ Hid (Below wo.heap.size wo wq)) (fun s _ _ => match s with | .string b => nj + 1 - b.size | _ => 0)
      case atStart => exact ⟨0, by omega, rfl, rfl, Lib.hid (Below.refl _ _)⟩
      case round =>
        obtain ⟨j, hj, rfl, rfl, HQ⟩ := hrel
        have hsz : (bs (ldg ci j)).size = j := by rw [bs_size, ldg_len]
        have lq := lcs_lt ci j lci2
        have hnx : lcs ci (j + 1) = (lcs ci j * 48271 + 11) % 2147483647 := rfl
        have hsx : ldg ci (j + 1) = ldg ci j ++ [UInt8.ofNat (48 + lcs ci (j + 1) / 65536 % 10)] := rfl
        obtain ⟨q, hq⟩ : ∃ q, lcs ci j = q := ⟨_, rfl⟩
        obtain ⟨r, hr⟩ : ∃ q, lcs ci (j + 1) = q := ⟨_, rfl⟩
        obtain ⟨S, hS⟩ : ∃ S, bs (ldg ci j) = S := ⟨_, rfl⟩
        rw [hq] at lq hnx ⊢
        rw [hr] at hnx hsx
        rw [hS] at hsz ⊢
        by_cases hjn : j < nj + 1
        · have e1 : ((q : Int) * 48271 + 11) % 2147483647 = (r : Int) := by omega
          have lr : r < 2147483647 := by omega
          have t1 : decide (S.size < 1 + nj) = true := decide_eq_true (by omega)
          have k1 : ¬ (S.size + (bs [UInt8.ofNat (48 + r / 65536 % 10)]).size > 9223372036854775807) := by rw [bs_size, List.length_singleton]; omega
          obtain ⟨d, hd⟩ : ∃ d, 48 + r / 65536 % 10 = d := ⟨_, rfl⟩
          rw [hd] at hsx k1
          have e2 : 48 + (r : Int) / 65536 % 10 = (d : Int) := by omega
          have hd2 : d < 256 := by omega
          have e3 : (d : Int) % 256 = (d : Int) := by omega
          have hcv := fun w => conv1 d hd2 w
          have HSX : Hid (S ++ bs [UInt8.ofNat d] = bs (ldg ci (j + 1))) := Lib.hid (by rw [hsx, ← hS, bs_append])
          have k2 : ¬ (9223372036854775807 < S.size + 1) := by omega
          unfold strOf at hcv
          have hs1 : (bs [UInt8.ofNat d]).size = 1 := rfl
          generalize bs [UInt8.ofNat d] = X1 at *
          have HRR := Lib.hid hr
          clear hq hr hS hsx hnx hd
          go_wp2
          go_roundw
          case rel => exact ⟨j + 1, by omega, by rw [← HSX.out], by rw [HRR.out, e1], Lib.hid (below_to HQ.out (new_below _ _))⟩
          case measure =>
            show nj + 1 - (S ++ X1).size < nj + 1 - S.size
            rw [ByteArray.size_append]; omega
        · obtain rfl : j = nj + 1 := by omega
          have hge : (1 : Int) + (nj : Int) ≤ (S.size : Int) := by omega
          obtain ⟨N, hN⟩ : ∃ N, Im.dv (ldg ci (nj + 1)) = N := ⟨_, rfl⟩
          have HTR : Hid (TrimAt N (.string S)) := Lib.hid ⟨ldg ci (nj + 1), by rw [hS], ldg_digs _ _, (by intro e; have := ldg_len ci (nj + 1); rw [e] at this; cases this), hN, by rw [ldg_len]; omega⟩
          have HTK : Hid (bs (Lib.itoa ((N : Nat) : Int)) = (if k = 0 then T0 else T1)) := Lib.hid (by
            have e : N = longN xi xj := by unfold longN; rw [HC.out, HN.out, ← hN, Nat.add_comm 1 nj]
            rw [e]
            have h0 := HI.out; have h1 := HJ.out
            rcases (by omega : k = 0 ∨ k = 1) with rfl | rfl
            · rw [if_pos rfl] at h0 h1 ⊢; rw [← h0, ← h1]; exact HT0.out
            · rw [if_neg (by decide)] at h0 h1 ⊢; rw [← h0, ← h1]; exact HT1.out)
          clear hnx hsx hq hr hS hN lq hsz
          obtain ⟨wz, hwz⟩ : ∃ wz : World, wz = wr := ⟨_, rfl⟩
          subst hwz
          go_wp2
          clear hge
          go_loopw [6] (fun s wq => TrimAt N s ∧ wq = wz) (fun s _ => match s with | .string b => b.size | _ => 0)
          case atStart => exact ⟨HTR.out, rfl⟩
          case round =>
            obtain ⟨⟨l, rfl, hd, hne, hv, hlen⟩, rfl⟩ := hrel
            have hbq := HQ.out
            have hrq := HR.out.below hbq HR.out.lt
            obtain ⟨cv, q0⟩ : ∃ cv, wr.cell? ⟨w.heap.size + 1 + 1, k, none⟩ = some cv := by
              rw [hrq.cell]
              rcases (by omega : k = 0 ∨ k = 1) with rfl | rfl
              · exact ⟨_, rfl⟩
              · exact ⟨_, rfl⟩
            have q1 := hrq.free k
            cases l with
            | nil => exact absurd rfl hne
            | cons c r =>
              have hix : ∀ w, (Instr.index 9 (.string (bs (c :: r))) (.int .i64 0)).run Tryz.prog w = .ok (.int .u8 (c.toNat : Int)) w := fun w => bs_at (c :: r) 0 c rfl w
              have hsz : (bs (c :: r)).size = r.length + 1 := by rw [bs_size, List.length_cons]
              have HPUT := outCells_put T0 T1 k hlt
              by_cases hr : r = []
              · have HFIN : Hid (bs (c :: r) = bs (Lib.itoa ((N : Nat) : Int))) := Lib.hid (by rw [← hv]; exact congrArg bs (txt_of_digs _ hd hne (fun c2 r2 e h => by obtain ⟨rfl, rfl⟩ := List.cons.inj e; exact absurd hr h)))
                have t2 : ((bs (c :: r)).size : Int) ≤ 1 := by rw [hsz, hr]; decide
                have HBQ := Lib.hid hbq; have HRQ := Lib.hid hrq
                clear hd hne hv hlen hix hsz hr hbq hrq
                replace HPUT := Lib.hid HPUT
                generalize bs (c :: r) = S9 at *
                go_wp2
                go_roundw
                case rel => exact ⟨k + 1, by omega, by go_num, Lib.hid ((HX.out.below HBQ.out HX.out.lt).far (by dsimp only; omega) _), Lib.hid ((HO.out.below HBQ.out HO.out.lt).far (by dsimp only; omega) _), Lib.hid (by
                    have hp := HRQ.out.put k (.string S9)
                    have hv2 : S9 = (if k = 0 then T0 else T1) := HFIN.out.trans HTK.out
                    have hput := HPUT.out
                    rw [← hv2] at hput
                    rw [hput] at hp
                    exact hp), Lib.hid ((below_to HB.out HBQ.out).setCell (by dsimp only; omega) _)⟩
                case measure => simp [intOf]; omega
              · have t2 : (1 : Int) < ((bs (c :: r)).size : Int) := by
                  have : r.length ≠ 0 := fun e => hr (List.eq_nil_of_length_eq_zero e)
                  omega
                by_cases hc : c = 48
                · have t3 : ((c.toNat : Int) == 48) = true := by rw [hc]; rfl
                  have hsl : ∀ w, (Instr.slice 9 (.string (bs (c :: r))) (some (.int .i64 1)) none none).run Tryz.prog w = .ok (.string (bs r)) w := fun w => by
                    rw [run_slice_string_l (P := Tryz.prog) w 9 (bs (c :: r)) Tryz.underlying9 .i64 1 (by omega) (by omega), hsz]
                    congr 2
                    rw [ByteArray.ext_iff, ByteArray.data_extract]
                    unfold bs
                    rw [List.extract_toArray]; simp
                  have HTR2 : Hid (TrimAt N (.string (bs r))) := Lib.hid ⟨r, rfl, (by
                    have h := hd
                    rw [show c :: r = [c] ++ r from rfl, Im.digs_append] at h
                    exact h.2), hr, (by rw [← hv, hc, dv_zero]), (by rw [List.length_cons] at hlen; omega)⟩
                  have HSZ := Lib.hid hsz
                  have HSR := Lib.hid (bs_size r)
                  clear hd hne hv hlen hsz hr hbq hrq hc q0 q1
                  replace HPUT := Lib.hid HPUT
                  generalize bs (c :: r) = S9 at *
                  generalize bs r = S8 at *
                  go_wp2
                  go_roundw
                  case rel => exact ⟨HTR2.out, trivial⟩
                  case measure =>
                    show S8.size < S9.size
                    rw [HSZ.out, HSR.out]; omega
                · have t3 : ((c.toNat : Int) == 48) = false := by
                    rw [beq_eq_false_iff_ne]
                    intro e
                    exact hc (UInt8.toNat_inj.1 (by show c.toNat = 48; omega))
                  have HFIN : Hid (bs (c :: r) = bs (Lib.itoa ((N : Nat) : Int))) := Lib.hid (by rw [← hv]; exact congrArg bs (txt_of_digs _ hd hne (fun c2 r2 e h => by obtain ⟨rfl, rfl⟩ := List.cons.inj e; exact hc)))
                  have HBQ := Lib.hid hbq; have HRQ := Lib.hid hrq
                  clear hd hne hv hlen hsz hr hbq hrq hc
                  replace HPUT := Lib.hid HPUT
                  generalize bs (c :: r) = S9 at *
                  go_wp2
                  go_roundw
                  case rel => exact ⟨k + 1, by omega, by go_num, Lib.hid ((HX.out.below HBQ.out HX.out.lt).far (by dsimp only; omega) _), Lib.hid ((HO.out.below HBQ.out HO.out.lt).far (by dsimp only; omega) _), Lib.hid (by
                      have hp := HRQ.out.put k (.string S9)
                      have hv2 : S9 = (if k = 0 then T0 else T1) := HFIN.out.trans HTK.out
                      have hput := HPUT.out
                      rw [← hv2] at hput
                      rw [hput] at hp
                      exact hp), Lib.hid ((below_to HB.out HBQ.out).setCell (by dsimp only; omega) _)⟩
                  case measure => simp [intOf]; omega
    · obtain rfl : k = 2 := by omega
      have hrr := HR.out
      have r0 : wr.cell? ⟨w.heap.size + 1 + 1, 0, none⟩ = some (.string T0) := hrr.cell 0
      have r1 : wr.cell? ⟨w.heap.size + 1 + 1, 1, none⟩ = some (.string T1) := hrr.cell 1
      have z0 := hrr.free 0
      have z1 := hrr.free 1
      have c0 : wr.cell? ⟨w.heap.size, 0, none⟩ = some (.int .i64 x0) := HX.out.cell 0
      have P3 := Lib.hid (PK.out x0 2 (by decide) (by decide) HBD.out.1.1.1 HBD.out.1.1.2)
      have MK := HMK.out
      have t1 : (T1.toList == [48]) = decide (longN x2 x3 = 0) := by rw [← HT1.out, txt_zero]; exact decide_eq_decide.2 (by omega)
      have t0 : (T0.toList == [48]) = decide (longN x0 x1 = 0) := by rw [← HT0.out, txt_zero]; exact decide_eq_decide.2 (by omega)
      have hsT0 : T0.size ≤ 300 := by
        rw [← HT0.out, bs_size]
        refine itoa_len (decide_eq_true ?_)
        have h := longN_lt x0 x1
        have h2 : (10 : Nat) ^ 100 ≤ 10 ^ 200 := by decide +kernel
        omega
      obtain ⟨m, hm⟩ : ∃ m, pickN x0 2 = m := ⟨_, rfl⟩
      rw [hm] at P3
      clear hrr
      by_cases hz : longN x2 x3 = 0
      · by_cases hp : m = 0
        · by_cases hn : longN x0 x1 = 0
          · rw [decide_eq_true hz] at t1
            have tp : ((m : Int) == 0) = true := by rw [hp]; rfl
            rw [decide_eq_true hn] at t0
            have en : longNum x0 x1 = ((longN x0 x1 : Nat) : Int) := by unfold longNum; rw [if_neg (fun h => h.2 hn)]
            have ed : longDen x2 x3 = 7 := by unfold longDen; rw [if_pos hz]
            rw [en, ed] at MK
            rw [show strOf (Lib.itoa 7) = .string ⟨#[55]⟩ from by rw [show Lib.itoa 7 = [55] from by decide +kernel]; rfl] at MK
            rw [show strOf (Lib.itoa ((longN x0 x1 : Nat) : Int)) = .string T0 from by unfold strOf; rw [HT0.out]] at MK
            replace MK := Lib.hid MK
            clear en ed hm hsT0
            go_wp2_with (first | (go_at_call 46; ((with_reducible refine Calls.mono (P3.out _) ?_); rintro e w8 ⟨rfl, rfl⟩)) | (go_at_call 28; ((with_reducible refine Calls.mono (MK.out _ (HT.out.next ?hu)) ?_); (case hu => first | exact HB.out | exact HB.out.setCell (by dsimp only; omega) _ | exact (HB.out.setCell (by dsimp only; omega) _).setCell (by dsimp only; omega) _); rintro e w3 ⟨rfl, hb3⟩); have HB3 : Hid (Below w.heap.size w w3) := Lib.hid (by first | exact below_to HB.out hb3 | exact below_to (HB.out.setCell (by dsimp only; omega) _) hb3 | exact below_to ((HB.out.setCell (by dsimp only; omega) _).setCell (by dsimp only; omega) _) hb3); have HO3 : Hid (Row w3 (w.heap.size + 1) 23 #[.string ⟨#[]⟩, .string ⟨#[]⟩]) := Lib.hid (by first | exact HO.out.below hb3 HO.out.lt | exact (HO.out.far (by dsimp only; omega) _).below hb3 (by have := HO.out.lt; simpa using this) | exact ((HO.out.far (by dsimp only; omega) _).far (by dsimp only; omega) _).below hb3 (by have := HO.out.lt; simpa using this)); obtain ⟨o0, o1, f0, f1⟩ := rat_facts HO3.out; have hl3 := HO3.out.lt; clear hb3))
            refine bodyPost_ret (results_rat1 rfl _ _ (w.heap.size + 1) _ _ rfl ((rat_row HO3.out).alloc _)) rfl ?_
            exact ⟨rfl, below_to ((HB3.out.setCell (by dsimp only; omega) _).setCell (by dsimp only; omega) _) (new_below _ _)⟩
          · rw [decide_eq_true hz] at t1
            have tp : ((m : Int) == 0) = true := by rw [hp]; rfl
            rw [decide_eq_false hn] at t0
            have en : longNum x0 x1 = -((longN x0 x1 : Nat) : Int) := by unfold longNum; rw [if_pos ⟨hm.trans hp, hn⟩]
            have ed : longDen x2 x3 = 7 := by unfold longDen; rw [if_pos hz]
            rw [en, ed] at MK
            rw [show strOf (Lib.itoa 7) = .string ⟨#[55]⟩ from by rw [show Lib.itoa 7 = [55] from by decide +kernel]; rfl] at MK
            have hmt := minus_text (g := ((longN x0 x1 : Nat) : Int)) (by omega)
            rw [HT0.out] at hmt
            rw [show strOf (Lib.itoa (-((longN x0 x1 : Nat) : Int))) = .string ((⟨#[45]⟩ : ByteArray) ++ T0) from by unfold strOf; rw [hmt]] at MK
            have k1 : ¬ ((⟨#[45]⟩ : ByteArray).size + T0.size > 9223372036854775807) := by show ¬ (1 + _ > _); omega
            have k2 : ¬ (9223372036854775807 < 1 + T0.size) := by omega
            clear hmt
            replace MK := Lib.hid MK
            clear en ed hm hsT0
            go_wp2_with (first | (go_at_call 46; ((with_reducible refine Calls.mono (P3.out _) ?_); rintro e w8 ⟨rfl, rfl⟩)) | (go_at_call 28; ((with_reducible refine Calls.mono (MK.out _ (HT.out.next ?hu)) ?_); (case hu => first | exact HB.out | exact HB.out.setCell (by dsimp only; omega) _ | exact (HB.out.setCell (by dsimp only; omega) _).setCell (by dsimp only; omega) _); rintro e w3 ⟨rfl, hb3⟩); have HB3 : Hid (Below w.heap.size w w3) := Lib.hid (by first | exact below_to HB.out hb3 | exact below_to (HB.out.setCell (by dsimp only; omega) _) hb3 | exact below_to ((HB.out.setCell (by dsimp only; omega) _).setCell (by dsimp only; omega) _) hb3); have HO3 : Hid (Row w3 (w.heap.size + 1) 23 #[.string ⟨#[]⟩, .string ⟨#[]⟩]) := Lib.hid (by first | exact HO.out.below hb3 HO.out.lt | exact (HO.out.far (by dsimp only; omega) _).below hb3 (by have := HO.out.lt; simpa using this) | exact ((HO.out.far (by dsimp only; omega) _).far (by dsimp only; omega) _).below hb3 (by have := HO.out.lt; simpa using this)); obtain ⟨o0, o1, f0, f1⟩ := rat_facts HO3.out; have hl3 := HO3.out.lt; clear hb3))
            refine bodyPost_ret (results_rat1 rfl _ _ (w.heap.size + 1) _ _ rfl ((rat_row HO3.out).alloc _)) rfl ?_
            exact ⟨rfl, below_to ((HB3.out.setCell (by dsimp only; omega) _).setCell (by dsimp only; omega) _) (new_below _ _)⟩
        · rw [decide_eq_true hz] at t1
          have tp : ((m : Int) == 0) = false := by rw [beq_eq_false_iff_ne]; omega
          have en : longNum x0 x1 = ((longN x0 x1 : Nat) : Int) := by unfold longNum; rw [if_neg (fun h => hp (hm.symm.trans h.1))]
          have ed : longDen x2 x3 = 7 := by unfold longDen; rw [if_pos hz]
          rw [en, ed] at MK
          rw [show strOf (Lib.itoa 7) = .string ⟨#[55]⟩ from by rw [show Lib.itoa 7 = [55] from by decide +kernel]; rfl] at MK
          rw [show strOf (Lib.itoa ((longN x0 x1 : Nat) : Int)) = .string T0 from by unfold strOf; rw [HT0.out]] at MK
          replace MK := Lib.hid MK
          clear en ed hm hsT0
          go_wp2_with (first | (go_at_call 46; ((with_reducible refine Calls.mono (P3.out _) ?_); rintro e w8 ⟨rfl, rfl⟩)) | (go_at_call 28; ((with_reducible refine Calls.mono (MK.out _ (HT.out.next ?hu)) ?_); (case hu => first | exact HB.out | exact HB.out.setCell (by dsimp only; omega) _ | exact (HB.out.setCell (by dsimp only; omega) _).setCell (by dsimp only; omega) _); rintro e w3 ⟨rfl, hb3⟩); have HB3 : Hid (Below w.heap.size w w3) := Lib.hid (by first | exact below_to HB.out hb3 | exact below_to (HB.out.setCell (by dsimp only; omega) _) hb3 | exact below_to ((HB.out.setCell (by dsimp only; omega) _).setCell (by dsimp only; omega) _) hb3); have HO3 : Hid (Row w3 (w.heap.size + 1) 23 #[.string ⟨#[]⟩, .string ⟨#[]⟩]) := Lib.hid (by first | exact HO.out.below hb3 HO.out.lt | exact (HO.out.far (by dsimp only; omega) _).below hb3 (by have := HO.out.lt; simpa using this) | exact ((HO.out.far (by dsimp only; omega) _).far (by dsimp only; omega) _).below hb3 (by have := HO.out.lt; simpa using this)); obtain ⟨o0, o1, f0, f1⟩ := rat_facts HO3.out; have hl3 := HO3.out.lt; clear hb3))
          refine bodyPost_ret (results_rat1 rfl _ _ (w.heap.size + 1) _ _ rfl ((rat_row HO3.out).alloc _)) rfl ?_
          exact ⟨rfl, below_to ((HB3.out.setCell (by dsimp only; omega) _).setCell (by dsimp only; omega) _) (new_below _ _)⟩
      · by_cases hp : m = 0
        · by_cases hn : longN x0 x1 = 0
          · rw [decide_eq_false hz] at t1
            have tp : ((m : Int) == 0) = true := by rw [hp]; rfl
            rw [decide_eq_true hn] at t0
            have en : longNum x0 x1 = ((longN x0 x1 : Nat) : Int) := by unfold longNum; rw [if_neg (fun h => h.2 hn)]
            have ed : longDen x2 x3 = ((longN x2 x3 : Nat) : Int) := by unfold longDen; rw [if_neg hz]
            rw [en, ed] at MK
            rw [show strOf (Lib.itoa ((longN x2 x3 : Nat) : Int)) = .string T1 from by unfold strOf; rw [HT1.out]] at MK
            rw [show strOf (Lib.itoa ((longN x0 x1 : Nat) : Int)) = .string T0 from by unfold strOf; rw [HT0.out]] at MK
            replace MK := Lib.hid MK
            clear en ed hm hsT0
            go_wp2_with (first | (go_at_call 46; ((with_reducible refine Calls.mono (P3.out _) ?_); rintro e w8 ⟨rfl, rfl⟩)) | (go_at_call 28; ((with_reducible refine Calls.mono (MK.out _ (HT.out.next ?hu)) ?_); (case hu => first | exact HB.out | exact HB.out.setCell (by dsimp only; omega) _ | exact (HB.out.setCell (by dsimp only; omega) _).setCell (by dsimp only; omega) _); rintro e w3 ⟨rfl, hb3⟩); have HB3 : Hid (Below w.heap.size w w3) := Lib.hid (by first | exact below_to HB.out hb3 | exact below_to (HB.out.setCell (by dsimp only; omega) _) hb3 | exact below_to ((HB.out.setCell (by dsimp only; omega) _).setCell (by dsimp only; omega) _) hb3); have HO3 : Hid (Row w3 (w.heap.size + 1) 23 #[.string ⟨#[]⟩, .string ⟨#[]⟩]) := Lib.hid (by first | exact HO.out.below hb3 HO.out.lt | exact (HO.out.far (by dsimp only; omega) _).below hb3 (by have := HO.out.lt; simpa using this) | exact ((HO.out.far (by dsimp only; omega) _).far (by dsimp only; omega) _).below hb3 (by have := HO.out.lt; simpa using this)); obtain ⟨o0, o1, f0, f1⟩ := rat_facts HO3.out; have hl3 := HO3.out.lt; clear hb3))
            refine bodyPost_ret (results_rat1 rfl _ _ (w.heap.size + 1) _ _ rfl ((rat_row HO3.out).alloc _)) rfl ?_
            exact ⟨rfl, below_to ((HB3.out.setCell (by dsimp only; omega) _).setCell (by dsimp only; omega) _) (new_below _ _)⟩
          · rw [decide_eq_false hz] at t1
            have tp : ((m : Int) == 0) = true := by rw [hp]; rfl
            rw [decide_eq_false hn] at t0
            have en : longNum x0 x1 = -((longN x0 x1 : Nat) : Int) := by unfold longNum; rw [if_pos ⟨hm.trans hp, hn⟩]
            have ed : longDen x2 x3 = ((longN x2 x3 : Nat) : Int) := by unfold longDen; rw [if_neg hz]
            rw [en, ed] at MK
            rw [show strOf (Lib.itoa ((longN x2 x3 : Nat) : Int)) = .string T1 from by unfold strOf; rw [HT1.out]] at MK
            have hmt := minus_text (g := ((longN x0 x1 : Nat) : Int)) (by omega)
            rw [HT0.out] at hmt
            rw [show strOf (Lib.itoa (-((longN x0 x1 : Nat) : Int))) = .string ((⟨#[45]⟩ : ByteArray) ++ T0) from by unfold strOf; rw [hmt]] at MK
            have k1 : ¬ ((⟨#[45]⟩ : ByteArray).size + T0.size > 9223372036854775807) := by show ¬ (1 + _ > _); omega
            have k2 : ¬ (9223372036854775807 < 1 + T0.size) := by omega
            clear hmt
            replace MK := Lib.hid MK
            clear en ed hm hsT0
            go_wp2_with (first | (go_at_call 46; ((with_reducible refine Calls.mono (P3.out _) ?_); rintro e w8 ⟨rfl, rfl⟩)) | (go_at_call 28; ((with_reducible refine Calls.mono (MK.out _ (HT.out.next ?hu)) ?_); (case hu => first | exact HB.out | exact HB.out.setCell (by dsimp only; omega) _ | exact (HB.out.setCell (by dsimp only; omega) _).setCell (by dsimp only; omega) _); rintro e w3 ⟨rfl, hb3⟩); have HB3 : Hid (Below w.heap.size w w3) := Lib.hid (by first | exact below_to HB.out hb3 | exact below_to (HB.out.setCell (by dsimp only; omega) _) hb3 | exact below_to ((HB.out.setCell (by dsimp only; omega) _).setCell (by dsimp only; omega) _) hb3); have HO3 : Hid (Row w3 (w.heap.size + 1) 23 #[.string ⟨#[]⟩, .string ⟨#[]⟩]) := Lib.hid (by first | exact HO.out.below hb3 HO.out.lt | exact (HO.out.far (by dsimp only; omega) _).below hb3 (by have := HO.out.lt; simpa using this) | exact ((HO.out.far (by dsimp only; omega) _).far (by dsimp only; omega) _).below hb3 (by have := HO.out.lt; simpa using this)); obtain ⟨o0, o1, f0, f1⟩ := rat_facts HO3.out; have hl3 := HO3.out.lt; clear hb3))
            refine bodyPost_ret (results_rat1 rfl _ _ (w.heap.size + 1) _ _ rfl ((rat_row HO3.out).alloc _)) rfl ?_
            exact ⟨rfl, below_to ((HB3.out.setCell (by dsimp only; omega) _).setCell (by dsimp only; omega) _) (new_below _ _)⟩
        · rw [decide_eq_false hz] at t1
          have tp : ((m : Int) == 0) = false := by rw [beq_eq_false_iff_ne]; omega
          have en : longNum x0 x1 = ((longN x0 x1 : Nat) : Int) := by unfold longNum; rw [if_neg (fun h => hp (hm.symm.trans h.1))]
          have ed : longDen x2 x3 = ((longN x2 x3 : Nat) : Int) := by unfold longDen; rw [if_neg hz]
          rw [en, ed] at MK
          rw [show strOf (Lib.itoa ((longN x2 x3 : Nat) : Int)) = .string T1 from by unfold strOf; rw [HT1.out]] at MK
          rw [show strOf (Lib.itoa ((longN x0 x1 : Nat) : Int)) = .string T0 from by unfold strOf; rw [HT0.out]] at MK
          replace MK := Lib.hid MK
          clear en ed hm hsT0
          go_wp2_with (first | (go_at_call 46; ((with_reducible refine Calls.mono (P3.out _) ?_); rintro e w8 ⟨rfl, rfl⟩)) | (go_at_call 28; ((with_reducible refine Calls.mono (MK.out _ (HT.out.next ?hu)) ?_); (case hu => first | exact HB.out | exact HB.out.setCell (by dsimp only; omega) _ | exact (HB.out.setCell (by dsimp only; omega) _).setCell (by dsimp only; omega) _); rintro e w3 ⟨rfl, hb3⟩); have HB3 : Hid (Below w.heap.size w w3) := Lib.hid (by first | exact below_to HB.out hb3 | exact below_to (HB.out.setCell (by dsimp only; omega) _) hb3 | exact below_to ((HB.out.setCell (by dsimp only; omega) _).setCell (by dsimp only; omega) _) hb3); have HO3 : Hid (Row w3 (w.heap.size + 1) 23 #[.string ⟨#[]⟩, .string ⟨#[]⟩]) := Lib.hid (by first | exact HO.out.below hb3 HO.out.lt | exact (HO.out.far (by dsimp only; omega) _).below hb3 (by have := HO.out.lt; simpa using this) | exact ((HO.out.far (by dsimp only; omega) _).far (by dsimp only; omega) _).below hb3 (by have := HO.out.lt; simpa using this)); obtain ⟨o0, o1, f0, f1⟩ := rat_facts HO3.out; have hl3 := HO3.out.lt; clear hb3))
          refine bodyPost_ret (results_rat1 rfl _ _ (w.heap.size + 1) _ _ rfl ((rat_row HO3.out).alloc _)) rfl ?_
          exact ⟨rfl, below_to ((HB3.out.setCell (by dsimp only; omega) _).setCell (by dsimp only; omega) _) (new_below _ _)⟩
end Go.Proofs.YtabkodpjhpjgnaaGreatDoor
