/- The walk of WireSumAffine: where the table reads as laid, it returns true for every input. -/
import Derived.Test.YtihifbhfgdifeaaDoorWe1
import Derived.Deep.QuietTactic
import Derived.BigQuiet
namespace Go.Proofs.YtihifbhfgdifeaaDoor
open Go.RowKit

theorem byteCells_set (L : List UInt8) (k : Nat) (b : UInt8) : (byteCells L).set k (.int .u8 (b.toNat : Int)) = byteCells (L.set k b) := by simp [byteCells, List.map_set]
theorem own_made (w : World) (n : Nat) (M : Array Value) (h : M = madeCells #[.int .u8 0] n) (hn : n ≤ maxLen) :
    (w.alloc (.cells M 5)).ownsRow w.heap.size 5 1 (.slice (some ⟨w.heap.size, 0, none⟩) n n) n (byteCells (List.replicate n 0)) := by
  refine ⟨by simp [byteCells], .inr ⟨w.heap.size, n, M, rfl, Nat.le_refl _, World.alloc_heap_new w _, Nat.le_refl _, hn, by rw [h, size_madeCells]; omega, ?_⟩⟩
  rw [h, toList_madeCells_one, Nat.mul_one, List.take_of_length_le (by simp)]
  simp [byteCells]
theorem xor_u8 (a b : UInt8) : bits .xor .u8 (a.toNat : Int) (b.toNat : Int) = (((a ^^^ b).toNat : Nat) : Int) := by
  rw [u8_xor_nat _ _ a.toNat_lt b.toNat_lt, UInt8.toNat_xor]
/-- The bytes made so far. -/
def MixUpto (a b c : ByteArray) (L : List UInt8) (k : Nat) : Prop := ∀ i, i < k → L.getD i 0 = a.data.toList.getD i 0 ^^^ b.data.toList.getD i 0 ^^^ c.data.toList.getD i 0
theorem getD_at (s : ByteArray) (k : Nat) (h : k < s.size) : s.data.toList.getD k 0 = s[k] := by
  rw [List.getD_eq_getElem?_getD, List.getElem?_eq_getElem (by simpa using h)]; rfl
theorem MixUpto.next {a b c : ByteArray} {L : List UInt8} {k : Nat} (h : MixUpto a b c L k) (ha : k < a.size) (hb : k < b.size) (hc : k < c.size) (hL : k < L.length) : MixUpto a b c (L.set k (a[k] ^^^ b[k] ^^^ c[k])) (k + 1) := by
  intro i hi
  by_cases hik : i = k
  · subst hik
    rw [getD_at a i ha, getD_at b i hb, getD_at c i hc]
    simp [hL]
  · rw [← h i (by omega)]
    simp [Ne.symm hik]
theorem xor_i64 (a b : Nat) (ha : a < 4294967296) (hb : b < 4294967296) : bits .xor .i64 (a : Int) (b : Int) = ((a ^^^ b : Nat) : Int) := by
  have hx : a ^^^ b < 2 ^ 32 := Nat.xor_lt_two_pow (by omega) (by omega)
  have h1 : (BitVec.ofInt 64 (a : Int)).toNat = a := by
    rw [BitVec.ofInt_natCast, BitVec.toNat_ofNat]; exact Nat.mod_eq_of_lt (by omega)
  have h2 : (BitVec.ofInt 64 (b : Int)).toNat = b := by
    rw [BitVec.ofInt_natCast, BitVec.toNat_ofNat]; exact Nat.mod_eq_of_lt (by omega)
  show IntKind.i64.wrap ((BitVec.ofInt 64 (a : Int) ^^^ BitVec.ofInt 64 (b : Int)).toNat : Int) = _
  rw [BitVec.toNat_xor, h1, h2, IntKind.wrap_i64]
  omega
theorem sum_quiet (s : ByteArray) (w : World) (q : Nat) (hs : s.size ≤ maxLen) (ht : TabOk w) :
    Calls Tryd.prog 21 #[.string s] (w.drewN q) fun e w' => e = .returned (.int .i64 ((Wm.crc s.data.toList : Nat) : Int)) ∧ w' = w.drewN q :=
  (sum_any s (w.drewN q) hs (fun i hi => ht i hi)).mono fun _ _ ⟨he, hw⟩ => ⟨he, hw.symm⟩
theorem if_min (p q : Int) : (if q < p then q else p) = min p q := by split <;> omega
theorem run_min_int4 {P : Program} {w : World} (ts : Array TypeId) (t : TypeId) (k k1 k2 k3 : IntKind) (x y z u n : Int) (h : min (min (min x y) z) u = n) :
    Sem.run P (Builtin.min_ ts t #[.int k x, .int k1 y, .int k2 z, .int k3 u]) w = .ok (.int k n) w := by
  rw [← h, ← if_min, ← if_min, ← if_min]
  simp [Builtin.min_, Builtin.min2]

set_option maxRecDepth 100000 in
set_option maxHeartbeats 1000000 in
theorem affine_walk (a b c : ByteArray) (w : World) (ht : TabOk w) (ha : a.size ≤ maxLen) (hb : b.size ≤ maxLen) (hc : c.size ≤ maxLen) :
    Calls Tryd.prog 9 #[.string a, .string b, .string c] w fun e w' => e = .returned (.bool true) ∧ Below w.heap.size w w' := by
  have hsn := fun w h => sane_any w h
  unfold maxLen at ha hb hc
  obtain ⟨n, hn⟩ : ∃ n : Nat, min (min (min (a.size : Int) b.size) c.size) 200 = n := ⟨(min (min (min a.size b.size) c.size) 200), by omega⟩
  have hn1 : n ≤ 200 := by omega
  have hna : n ≤ a.size := by omega
  have hnb : n ≤ b.size := by omega
  have hnc : n ≤ c.size := by omega
  have hmin := fun (w : World) => run_min_int4 (P := Tryd.prog) (w := w) #[3, 3, 3, 3] 3 .i64 .i64 .i64 .i64 a.size b.size c.size 200 n hn
  clear hn
  obtain ⟨i0, hi, hz0, hz1, hz2⟩ := info_parts Tryd.infoU8
  obtain ⟨M, hM⟩ : ∃ M, madeCells (Value.int .u8 0).cells (((n : Nat) : Int).toNat * i0.size) = M := ⟨_, rfl⟩
  have hMs : M.size = n := by rw [← hM, size_madeCells, hz1]; simp
  have hmk := fun (w : World) => run_make (P := Tryd.prog) w 38 5 i0 (.int .u8 0) Tryd.underlying38 hi hz0 .i64 .i64 (n : Int) (n : Int) (by omega) (by omega) (by rw [hz2]; omega) (by omega)
  rw [hM] at hmk
  have HM := Lib.hid hM; have HZ := Lib.hid hz1; clear hM hi hz0 hz1 hz2
  have H0 := Lib.hid hsn; clear hsn
  have HT := Lib.hid ht; clear ht
  go_enter Tryd.func9, Tryd.ntmps9
  go_wp2_with fail
  refine (H0.out _ HT.out).mono ?_
  rintro e w1 ⟨rfl, b1⟩
  go_wp2_with fail
  have hown0 := own_made w1 n M (by rw [← HM.out, HZ.out]; simp [Value.cells]) (by unfold maxLen; omega)
  go_loopw [10] (fun i wr => ∃ (k : Nat) (L : List UInt8), k ≤ n ∧ L.length = n ∧ MixUpto a b c L k ∧ i = .int .i64 k ∧ wr.ownsRow w1.heap.size 5 1 (.slice (some ⟨w1.heap.size, 0, none⟩) n n) n (byteCells L) ∧ Below w1.heap.size w1 wr) (fun i _ => n - (intOf i).toNat)
  case atStart => exact ⟨0, List.replicate n 0, by omega, by simp, fun i hi => by omega, rfl, hown0, (Below.refl _ _).alloc (Nat.le_refl _) _⟩
  case round =>
    obtain ⟨k, L, hk, hL, hX, rfl, hown, hB⟩ := hrel
    by_cases hlt : k < n
    · have hka : k < a.size := by omega
      have hkb : k < b.size := by omega
      have hkc : k < c.size := by omega
      have e1 := xor_u8 a[k] b[k]
      have e2 := xor_u8 (a[k] ^^^ b[k]) c[k]
      have hst := hown.stored k (.int .u8 (((a[k] ^^^ b[k] ^^^ c[k]).toNat : Nat) : Int))
      rw [byteCells_set] at hst
      have hX2 := hX.next hka hkb hkc (by omega)
      have hcell : wr.cell? ⟨w1.heap.size, k, none⟩ = some (.int .u8 ((L.getD k 0).toNat : Int)) := by
        rw [hown.cellAt k (by omega)]
        simp [byteCells, List.getElem?_eq_getElem (show k < L.length by omega)]
      have hfr := hown.frozenAt k
      have hkL : (L.set k (a[k] ^^^ b[k] ^^^ c[k])).length = n := by simpa using hL
      obtain ⟨L2, hL2⟩ : ∃ L2, L.set k (a[k] ^^^ b[k] ^^^ c[k]) = L2 := ⟨_, rfl⟩
      rw [hL2] at hst hX2 hkL
      clear hL2
      obtain ⟨x2, hx2⟩ : ∃ x, a[k] ^^^ b[k] ^^^ c[k] = x := ⟨_, rfl⟩
      rw [hx2] at e2 hst
      obtain ⟨x1, hx1⟩ : ∃ x, a[k] ^^^ b[k] = x := ⟨_, rfl⟩
      rw [hx1] at e1 e2
      have HS := Lib.hid hst; clear hst
      have HL := Lib.hid hL; have HL2 := Lib.hid hkL; clear hL hkL hx1 hx2
      have HX := Lib.hid hX; have HX2 := Lib.hid hX2; clear hX hX2
      have HW := Lib.hid hown; clear hown
      go_wp2
      go_region
      all_goals
        go_wp2
        go_roundw
        case rel => exact ⟨k + 1, L2, by omega, HL2.out, HX2.out, by go_num, HS.out.1.drew, (hB.setCell (p := ⟨w1.heap.size, k, none⟩) (Nat.le_refl _) _).drew⟩
        case measure => simp [intOf]; omega
    · obtain rfl : n = k := by omega
      have dB : Below w.heap.size w wr := below_chain b1 b1.size hB
      have tr := HT.out.next dB
      have hcv : ∀ q, Sem.run Tryd.prog (Go.convert 38 9 (.slice (some ⟨w1.heap.size, 0, none⟩) n n)) (wr.drewN q) = .ok (.string (bs L)) (wr.drewN q) := fun q =>
        own_string (w := wr.drewN q) L hown hL rfl
      have ex : Wm.crc L = Wm.crc (a.extract 0 n).data.toList ^^^ Wm.crc (b.extract 0 n).data.toList ^^^ Wm.crc (c.extract 0 n).data.toList := by
        have e : ∀ s : ByteArray, n ≤ s.size → (s.extract 0 n).data.toList.length = L.length ∧ ∀ i, i < n → (s.extract 0 n).data.toList.getD i 0 = s.data.toList.getD i 0 := fun s h => by
          rw [Lib.extract_data, List.drop_zero, Nat.sub_zero]
          refine ⟨by rw [List.length_take, hL]; simp; omega, fun i hi => ?_⟩
          simp [hi]
        refine Wm.crc_xor3 _ _ _ _ (e a hna).1 (e b hnb).1 (e c hnc).1 fun i hi => ?_
        rw [hX i (by omega), (e a hna).2 i (by omega), (e b hnb).2 i (by omega), (e c hnc).2 i (by omega)]
      have kX := fun q => sum_quiet (bs L) wr q (by rw [bs_size]; unfold maxLen; omega) tr
      rw [bs_list] at kX
      have kA := fun q => sum_quiet (a.extract 0 n) wr q (by rw [ByteArray.size_extract]; unfold maxLen; omega) tr
      have kB := fun q => sum_quiet (b.extract 0 n) wr q (by rw [ByteArray.size_extract]; unfold maxLen; omega) tr
      have kC := fun q => sum_quiet (c.extract 0 n) wr q (by rw [ByteArray.size_extract]; unfold maxLen; omega) tr
      have lA := Wm.crc_lt (a.extract 0 n).data.toList
      have lB := Wm.crc_lt (b.extract 0 n).data.toList
      have lC := Wm.crc_lt (c.extract 0 n).data.toList
      obtain ⟨cX, hcX⟩ : ∃ x, Wm.crc L = x := ⟨_, rfl⟩
      obtain ⟨cA, hcA⟩ : ∃ x, Wm.crc (a.extract 0 n).data.toList = x := ⟨_, rfl⟩
      obtain ⟨cB, hcB⟩ : ∃ x, Wm.crc (b.extract 0 n).data.toList = x := ⟨_, rfl⟩
      obtain ⟨cC, hcC⟩ : ∃ x, Wm.crc (c.extract 0 n).data.toList = x := ⟨_, rfl⟩
      rw [hcX, hcA, hcB, hcC] at ex
      rw [hcX] at kX
      rw [hcA] at kA lA
      rw [hcB] at kB lB
      rw [hcC] at kC lC
      subst ex
      clear hcX hcA hcB hcC hX hown
      have e1 := xor_i64 cA cB lA lB
      have e2 := xor_i64 (cA ^^^ cB) cC (Nat.xor_lt_two_pow (n := 32) (by omega) (by omega)) lC
      obtain ⟨A, hA⟩ : ∃ A, a.extract 0 n = A := ⟨_, rfl⟩
      obtain ⟨B, hB'⟩ : ∃ B, b.extract 0 n = B := ⟨_, rfl⟩
      obtain ⟨C, hC⟩ : ∃ C, c.extract 0 n = C := ⟨_, rfl⟩
      obtain ⟨X, hX⟩ : ∃ X, bs L = X := ⟨_, rfl⟩
      rw [hA] at kA
      rw [hB'] at kB
      rw [hC] at kC
      rw [hX] at kX hcv
      clear hX hL
      have KX := Lib.hid kX; have KA := Lib.hid kA; have KB := Lib.hid kB; have KC := Lib.hid kC; clear kX kA kB kC
      have HTr := Lib.hid tr; clear tr
      go_wp2
      go_quiet (first | (go_at_call 21; (with_reducible refine Calls.quiet_of_same (KX.out _))) | (go_at_call 21; (with_reducible refine Calls.quiet_of_same (KA.out _))) | (go_at_call 21; (with_reducible refine Calls.quiet_of_same (KB.out _))) | (go_at_call 21; (with_reducible refine Calls.quiet_of_same (KC.out _))))
      go_wp2
      go_ret
      exact ⟨by simp, ⟨dB.os, dB.tape, dB.output, dB.size, dB.block⟩⟩
end Go.Proofs.YtihifbhfgdifeaaDoor
