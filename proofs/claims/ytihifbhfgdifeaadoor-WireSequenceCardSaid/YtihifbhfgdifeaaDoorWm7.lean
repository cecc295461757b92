/- The walk of WireSequence: where the table reads as laid, it returns true for every input. -/
import Derived.Test.YtihifbhfgdifeaaDoorWe1
import Derived.StillTailTactics
import Derived.Deep.RegionHeld3
namespace Go.Proofs.YtihifbhfgdifeaaDoor
open Go.RowKit

/-- The strings so far: integers and strings in turn. -/
def txt (ss : Nat → ByteArray) (k : Nat) : ByteArray := (ss k).extract 0 (min ((ss k).size : Int) 100).toNat
def seqA (zs : Nat → Int) (k : Nat) : ByteArray := bs (Wm.enc (Wm.foldZ (numZ (zs k))))
def seqB (ss : Nat → ByteArray) (k : Nat) : ByteArray := bs (Wm.enc (Wm.foldZ (txt ss k).size) ++ (txt ss k).data.toList)
def seqS (zs : Nat → Int) (ss : Nat → ByteArray) : Nat → ByteArray
  | 0 => ⟨#[]⟩
  | k + 1 => seqS zs ss k ++ seqA zs k ++ seqB ss k
theorem txt_size (ss : Nat → ByteArray) (k : Nat) : (txt ss k).size ≤ 100 := by
  have := (cut_size (s := ss k) (n := 100) rfl).1
  unfold txt; omega
theorem seqA_size (zs : Nat → Int) (k : Nat) : (seqA zs k).size ≤ 9 := by unfold seqA; rw [bs_size]; exact Wm.enc_le _
theorem seqB_size (ss : Nat → ByteArray) (k : Nat) : (seqB ss k).size ≤ 109 := by
  unfold seqB; rw [bs_size]; have := Wm.enc_le (Wm.foldZ (txt ss k).size); have := txt_size ss k; simp; omega
theorem seqS_size (zs : Nat → Int) (ss : Nat → ByteArray) : ∀ k, (seqS zs ss k).size ≤ 118 * k
  | 0 => by simp [seqS, ByteArray.size]
  | k + 1 => by
    have := seqS_size zs ss k; have := seqA_size zs k; have := seqB_size ss k
    simp only [seqS, ByteArray.size_append]; omega
theorem seqS_rest (zs : Nat → Int) (ss : Nat → ByteArray) (k : Nat) : ∀ n, k ≤ n → ∃ rest : List UInt8, (seqS zs ss n).data.toList = (seqS zs ss k).data.toList ++ rest
  | 0, h => ⟨[], by obtain rfl : k = 0 := by omega
                    simp⟩
  | n + 1, h => by
    by_cases hk : k = n + 1
    · subst hk; exact ⟨[], by simp⟩
    · obtain ⟨r, hr⟩ := seqS_rest zs ss k n (by omega)
      exact ⟨r ++ ((seqA zs n).data.toList ++ (seqB ss n).data.toList), by simp only [seqS, ByteArray.data_append, Array.toList_append]; rw [hr]; simp⟩

theorem seq_int (zs : Nat → Int) (ss : Nat → ByteArray) (k n : Nat) (h : k < n) :
    intR (seqS zs ss n).data.toList (seqS zs ss k).size = (numZ (zs k), ((seqS zs ss k).size : Int) + (seqA zs k).size, 0) := by
  obtain ⟨r, hr⟩ := seqS_rest zs ss (k + 1) n (by omega)
  have hb := numZ_bd (zs k)
  have e := intR_emb (seqS zs ss k).data.toList ((seqB ss k).data.toList ++ r) (numZ (zs k)) (by omega) (by omega)
  rw [hr, show (seqS zs ss (k + 1)).data.toList ++ r = (seqS zs ss k).data.toList ++ Wm.enc (Wm.foldZ (numZ (zs k))) ++ ((seqB ss k).data.toList ++ r) from by simp [seqS, seqA, bs]]
  rw [show (seqS zs ss k).data.toList.length = (seqS zs ss k).size from by simp] at e
  rw [e, show (Wm.enc (Wm.foldZ (numZ (zs k)))).length = (seqA zs k).size from by unfold seqA; rw [bs_size]]
theorem seq_str (zs : Nat → Int) (ss : Nat → ByteArray) (k n : Nat) (h : k < n) :
    strR (seqS zs ss n).data.toList (((seqS zs ss k).size : Int) + (seqA zs k).size) = ((txt ss k).data.toList, ((seqS zs ss k).size : Int) + (seqA zs k).size + (seqB ss k).size, 0) := by
  obtain ⟨r, hr⟩ := seqS_rest zs ss (k + 1) n (by omega)
  have ht := txt_size ss k
  have e := strR_emb ((seqS zs ss k).data.toList ++ (seqA zs k).data.toList) r (txt ss k).data.toList (by simp; omega)
  have hl : (txt ss k).data.toList.length = (txt ss k).size := by simp
  rw [hr, show (seqS zs ss (k + 1)).data.toList ++ r = (seqS zs ss k).data.toList ++ (seqA zs k).data.toList ++ (Wm.enc (Wm.foldZ (txt ss k).size) ++ (txt ss k).data.toList) ++ r from by simp [seqS, seqB, bs]]
  rw [hl] at e
  have h1 : (((seqS zs ss k).data.toList ++ (seqA zs k).data.toList).length : Int) = ((seqS zs ss k).size : Int) + (seqA zs k).size := by simp
  have h2 : (Wm.enc (Wm.foldZ (txt ss k).size) ++ (txt ss k).data.toList).length = (seqB ss k).size := by unfold seqB; rw [bs_size]
  rw [h1, h2] at e
  exact e
theorem seq_end (l : List UInt8) : intR l l.length = (0, 0, 10) := by
  unfold intR
  rw [if_neg (by omega), Int.toNat_natCast, List.drop_eq_nil_of_le (Nat.le_refl _)]; rfl
theorem if_min3 (p q : Int) : (if q < p then q else p) = min p q := by split <;> omega
theorem run_min_int3' {P : Program} {w : World} (ts : Array TypeId) (t : TypeId) (k k1 k2 : IntKind) (x y z n : Int) (h : min (min x y) z = n) :
    Sem.run P (Builtin.min_ ts t #[.int k x, .int k1 y, .int k2 z]) w = .ok (.int k n) w := by
  rw [← h, ← if_min3, ← if_min3]
  simp [Builtin.min_, Builtin.min2]
set_option maxRecDepth 100000 in
set_option maxHeartbeats 2000000 in
theorem seq_walk (b1 o1 l1 c1 b2 o2 l2 c2 : Nat) (zs : Nat → Int) (ss : Nat → ByteArray) (w : World) (ht : TabOk w) (hl1 : 0 < l1) (hl2 : 0 < l2) (hm1 : l1 ≤ maxLen) (hm2 : l2 ≤ maxLen)
    (hb1 : b1 < w.heap.size) (hb2 : b2 < w.heap.size) (hz : ∀ i, i < l1 → w.cell? ⟨b1, o1 + i, none⟩ = some (.int .i64 (zs i)) ∧ -9223372036854775808 ≤ zs i ∧ zs i ≤ 9223372036854775807)
    (hs : ∀ i, i < l2 → w.cell? ⟨b2, o2 + i, none⟩ = some (.string (ss i)) ∧ (ss i).size ≤ maxLen) :
    Calls Tryd.prog 6 #[.slice (some ⟨b1, o1, none⟩) l1 c1, .slice (some ⟨b2, o2, none⟩) l2 c2] w fun e w' => e = .returned (.bool true) ∧ Below w.heap.size w w' := by
  have hsn := fun w h => sane_any w h
  obtain ⟨n, hn⟩ : ∃ n : Nat, min (min (l1 : Int) l2) 20 = n := ⟨min (min l1 l2) 20, by omega⟩
  have hn1 : n ≤ 20 ∧ n ≤ l1 ∧ n ≤ l2 := by omega
  have hmin := fun (w : World) => run_min_int3' (P := Tryd.prog) (w := w) #[3, 3, 3] 3 .i64 .i64 .i64 l1 l2 20 n hn
  clear hn
  unfold maxLen at hm1 hm2
  have H0 := Lib.hid hsn; clear hsn
  have HT := Lib.hid ht; clear ht
  have HZ := Lib.hid hz; have HS := Lib.hid hs; clear hz hs
  go_enter Tryd.func6, Tryd.ntmps6
  go_wp2_with fail
  refine (H0.out _ HT.out).mono ?_
  rintro e w1 ⟨rfl, b1'⟩
  go_wp2_with fail
  have hS0 : (⟨#[]⟩ : ByteArray) = seqS zs ss 0 := rfl
  go_loopw [7, 8, 9, 10, 11, 12] (fun sv x _ _ _ _ wr => ∃ k : Nat, k ≤ n ∧ x = .int .i64 k ∧ sv = .string (seqS zs ss k) ∧ Below w.heap.size w wr) (fun _ x _ _ _ _ _ => n - (intOf x).toNat)
  case atStart => exact ⟨0, by omega, rfl, rfl, b1'⟩
  case round =>
    obtain ⟨k, hk, rfl, rfl, hB⟩ := hrel
    clear hS0
    have hsz := seqS_size zs ss k
    by_cases hlt : k < n
    · obtain ⟨zc, zl, zh⟩ := HZ.out k (by omega)
      obtain ⟨sc, sl⟩ := HS.out k (by omega)
      have zc' := (hB.cell (p := ⟨b1, o1 + k, none⟩) hb1).trans zc
      clear zc
      have k1 := fun w => num_any (zs k) w zl zh
      have zb := numZ_bd (zs k)
      have k2 := fun w => put_in (numZ (zs k)) w (by omega) (by omega)
      have tsz := txt_size ss k
      have k3 := fun w => putS_any (txt ss k) w (by unfold maxLen; omega)
      rw [putS_small _ (by omega)] at k3
      have asz := seqA_size zs k
      have bsz := seqB_size ss k
      obtain ⟨S2, hS2⟩ : ∃ S2, seqS zs ss k ++ seqA zs k ++ seqB ss k = S2 := ⟨_, rfl⟩
      have hSn : seqS zs ss (k + 1) = S2 := hS2
      obtain ⟨A, hA⟩ : ∃ A, seqA zs k = A := ⟨_, rfl⟩
      obtain ⟨B, hBB⟩ : ∃ B, seqB ss k = B := ⟨_, rfl⟩
      have k2' : ∀ w, Calls Tryd.prog 12 #[.int .i64 (numZ (zs k))] w fun e w' => e = .returned (.tuple #[.string A, .int .i64 0]) ∧ Below w.heap.size w w' := by rw [← hA]; exact k2
      have k3' : ∀ w, Calls Tryd.prog 19 #[.string (txt ss k)] w fun e w' => e = .returned (.tuple #[.string B, .int .i64 0]) ∧ Below w.heap.size w w' := by rw [← hBB]; exact k3
      rw [hA] at asz hS2
      rw [hBB] at bsz hS2
      clear k2 k3 hA hBB
      obtain ⟨S1, hS1⟩ : ∃ S1, seqS zs ss k = S1 := ⟨_, rfl⟩
      rw [hS1] at hsz hS2 ⊢
      obtain ⟨u, hu⟩ : ∃ u, txt ss k = u := ⟨_, rfl⟩
      have hu2 : (ss k).extract 0 (min ((ss k).size : Int) 100).toNat = u := hu
      rw [hu] at k3' tsz
      obtain ⟨t0, ht0⟩ : ∃ t0, ss k = t0 := ⟨_, rfl⟩
      rw [ht0] at sc sl hu2
      obtain ⟨z0, hz0⟩ : ∃ z0, zs k = z0 := ⟨_, rfl⟩
      rw [hz0] at zc' zl zh k1 zb k2'
      obtain ⟨m, hm⟩ : ∃ m, numZ z0 = m := ⟨_, rfl⟩
      rw [hm] at k1 zb k2'
      clear hm hz0 ht0 hu hS1
      unfold maxLen at sl
      have HSn := Lib.hid hSn; have K1 := Lib.hid k1; have K2 := Lib.hid k2'; have K3 := Lib.hid k3'; have SC := Lib.hid sc
      clear hSn k1 k2' k3' sc
      go_wp2_with fail
      refine (K1.out _).mono ?_
      rintro e w3 ⟨rfl, b3⟩
      go_wp2_with fail
      refine (K2.out _).mono ?_
      rintro e w4 ⟨rfl, b4⟩
      have s3 := hB.size; have s4 := b3.size; have s5 := b4.size
      have d4 := below_chain (below_chain hB s3 b3) (by omega) b4
      have sc4 := (d4.cell (p := ⟨b2, o2 + k, none⟩) hb2).trans SC.out
      go_wp2_with fail
      have hw4 : b2 < w4.heap.size := by omega
      have hi0 : (0 : Int) ≤ (k : Int) := by omega
      have hi1 : (k : Int) < (l2 : Int) := by omega
      have hm0 : (0 : Int) ≤ min (t0.size : Int) 100 := by omega
      have hm1' : min (t0.size : Int) 100 ≤ (t0.size : Int) := by omega
      go_region_held3 (fun w' => w'.cell? ⟨b2, o2 + k, none⟩ = some (.string t0)) (first | go_keep | (exact (b5.cell (p := ⟨b2, o2 + k, none⟩) (by simp; omega)).trans ‹_›)) ((go_at_call 19; refine (K3.out _).mono ?_; rintro e w5 ⟨rfl, b5⟩))
      go_wp2_with fail
      go_roundw
      case rel => exact ⟨k + 1, by omega, by go_num, by rw [HSn.out], by have s6 := b5.size; simp at b5; exact below_chain d4 (by omega) (by first | exact b5 | exact ⟨b5.os, b5.tape, b5.output, b5.size, b5.block⟩)⟩
      case measure => simp [intOf]; omega
    · obtain rfl : n = k := by omega
      obtain ⟨w2, rfl⟩ : ∃ w2 : World, w2 = wr := ⟨_, rfl⟩
      have hend : ∀ w, Calls Tryd.prog 15 #[.string (seqS zs ss n), .int .i64 ((seqS zs ss n).size : Int)] w fun e w' => e = .returned (.tuple #[.int .i64 0, .int .i64 0, .int .i64 10]) ∧ w = w' := fun w => by
        have h := int_any (seqS zs ss n) (seqS zs ss n).size w (by unfold maxLen; omega) (by omega) (by omega)
        have e := seq_end (seqS zs ss n).data.toList
        rw [show (seqS zs ss n).data.toList.length = (seqS zs ss n).size from by simp] at e
        rw [e] at h
        exact h
      have hrd : ∀ k, k < n → (∀ w, Calls Tryd.prog 15 #[.string (seqS zs ss n), .int .i64 ((seqS zs ss k).size : Int)] w fun e w' => e = .returned (.tuple #[.int .i64 (numZ (zs k)), .int .i64 (((seqS zs ss k).size : Int) + (seqA zs k).size), .int .i64 0]) ∧ w = w') ∧
          (∀ w, Calls Tryd.prog 17 #[.string (seqS zs ss n), .int .i64 (((seqS zs ss k).size : Int) + (seqA zs k).size)] w fun e w' => e = .returned (.tuple #[.string (txt ss k), .int .i64 (((seqS zs ss k).size : Int) + (seqA zs k).size + (seqB ss k).size), .int .i64 0]) ∧ Below w.heap.size w w') := fun k hk => by
        have hk1 := seqS_size zs ss k
        have hk2 := seqA_size zs k
        constructor
        · intro w
          have h := int_any (seqS zs ss n) (seqS zs ss k).size w (by unfold maxLen; omega) (by omega) (by omega)
          rw [seq_int zs ss k n hk] at h
          exact h
        · intro w
          have h := string_any (seqS zs ss n) (((seqS zs ss k).size : Int) + (seqA zs k).size) w (by unfold maxLen; omega) (by omega) (by omega)
          rw [seq_str zs ss k n hk, show tupT ((txt ss k).data.toList, ((seqS zs ss k).size : Int) + (seqA zs k).size + (seqB ss k).size, 0) = .tuple #[.string (txt ss k), .int .i64 (((seqS zs ss k).size : Int) + (seqA zs k).size + (seqB ss k).size), .int .i64 0] from by unfold tupT; rw [bs_of]] at h
          exact h
      obtain ⟨Sn, hSn⟩ : ∃ Sn, seqS zs ss n = Sn := ⟨_, rfl⟩
      rw [hSn] at hend hrd hsz ⊢
      have HSn := Lib.hid hSn; have HE := Lib.hid hend; have HR := Lib.hid hrd; clear hSn hend hrd
      have hz0 : (0 : Int) = ((seqS zs ss 0).size : Nat) := rfl
      have HZ0 := Lib.hid hz0; clear hz0
      go_wp2_with fail
      go_loopw [13, 14, 15, 16, 17, 18, 19, 20] (fun av x _ _ _ _ _ _ wr => ∃ (k p : Nat), k ≤ n ∧ x = .int .i64 k ∧ av = .int .i64 p ∧ (seqS zs ss k).size = p ∧ Below w.heap.size w wr) (fun _ x _ _ _ _ _ _ _ => n - (intOf x).toNat)
      case atStart => exact ⟨0, 0, by omega, rfl, rfl, rfl, hB⟩
      case round =>
        obtain ⟨k, p, hk, rfl, rfl, hp, hC⟩ := hrel
        have HP := Lib.hid hp; clear hp
        have hsz1 := seqS_size zs ss k
        rw [HP.out] at hsz1
        by_cases hlt : k < n
        · obtain ⟨zc, zl, zh⟩ := HZ.out k (by omega)
          obtain ⟨sc, sl⟩ := HS.out k (by omega)
          have k1 := fun w => num_any (zs k) w zl zh
          obtain ⟨kI, kS⟩ := HR.out k hlt
          have asz := seqA_size zs k
          have bsz := seqB_size ss k
          have tsz := txt_size ss k
          have hnx : (seqS zs ss (k + 1)).size = (seqS zs ss k).size + (seqA zs k).size + (seqB ss k).size := by simp only [seqS, ByteArray.size_append]
          rw [HP.out] at kI kS hnx
          obtain ⟨pa, hpa⟩ : ∃ x, (seqA zs k).size = x := ⟨_, rfl⟩
          obtain ⟨pb, hpb⟩ : ∃ x, (seqB ss k).size = x := ⟨_, rfl⟩
          rw [hpa] at kI kS asz hnx
          rw [hpb] at kS bsz hnx
          obtain ⟨u, hu⟩ : ∃ u, txt ss k = u := ⟨_, rfl⟩
          have hu2 : (ss k).extract 0 (min ((ss k).size : Int) 100).toNat = u := hu
          rw [hu] at kS tsz
          obtain ⟨t0, ht0⟩ : ∃ t0, ss k = t0 := ⟨_, rfl⟩
          rw [ht0] at sc sl hu2
          obtain ⟨z0, hz0⟩ : ∃ z0, zs k = z0 := ⟨_, rfl⟩
          rw [hz0] at zc zl zh k1 kI
          obtain ⟨m, hm⟩ : ∃ m, numZ z0 = m := ⟨_, rfl⟩
          rw [hm] at k1 kI
          clear hm hz0 ht0 hu hpa hpb
          unfold maxLen at sl
          have HN := Lib.hid hnx; have K1 := Lib.hid k1; have KI := Lib.hid kI; have KS := Lib.hid kS; have SC := Lib.hid sc; have ZC := Lib.hid zc
          clear hnx k1 kI kS sc zc
          go_wp2_with fail
          refine (KI.out _).mono ?_
          rintro e w' ⟨rfl, rfl⟩
          go_wp2_with fail
          refine (KS.out _).mono ?_
          rintro e w3 ⟨rfl, b3⟩
          have s3 := hC.size; have s4 := b3.size
          have d3 := below_chain hC s3 b3
          have sc3 := (d3.cell (p := ⟨b2, o2 + k, none⟩) hb2).trans SC.out
          have zc3 := (d3.cell (p := ⟨b1, o1 + k, none⟩) hb1).trans ZC.out
          have hw3 : b2 < w3.heap.size := by omega
          have hw4 : b1 < w3.heap.size := by omega
          have hi0 : (0 : Int) ≤ (k : Int) := by omega
          have hi1 : (k : Int) < (l1 : Int) := by omega
          have hi2 : (k : Int) < (l2 : Int) := by omega
          have hm0 : (0 : Int) ≤ min (t0.size : Int) 100 := by omega
          have hm1' : min (t0.size : Int) 100 ≤ (t0.size : Int) := by omega
          go_wp2_with fail
          go_region_held3 (fun w' => w'.cell? ⟨b1, o1 + k, none⟩ = some (.int .i64 z0) ∧ w'.cell? ⟨b2, o2 + k, none⟩ = some (.string t0)) (first | go_keep | (exact ⟨(b5.cell (p := ⟨b1, o1 + k, none⟩) (by simp; omega)).trans (by assumption), (b5.cell (p := ⟨b2, o2 + k, none⟩) (by simp; omega)).trans (by assumption)⟩)) ((go_at_call 11; refine (K1.out _).mono ?_; rintro e w5 ⟨rfl, b5⟩))
          go_wp2_with fail
          go_roundw
          case rel => exact ⟨k + 1, p + pa + pb, by omega, by go_num, by go_num, HN.out, by simp at b5; exact below_chain d3 (by omega) (by first | exact b5 | exact ⟨b5.os, b5.tape, b5.output, b5.size, b5.block⟩)⟩
          case measure => simp [intOf]; omega
        · obtain rfl : n = k := by omega
          have hpp : p = Sn.size := by rw [← HP.out, HSn.out]
          subst hpp
          go_wp2_with fail
          refine (HE.out _).mono ?_
          rintro e w' ⟨rfl, rfl⟩
          go_wp2
          go_ret
          exact ⟨rfl, hC⟩
end Go.Proofs.YtihifbhfgdifeaaDoor
