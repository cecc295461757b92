/- The walk of DigestExtensionBinding: it returns true for every input. -/
import Derived.Test.YtgindihjdnppiaaDoorL1
import Derived.Test.YtgindihjdnppiaaDoorE10
namespace Go.Proofs.YtgindihjdnppiaaDoor
open Go.RowKit

theorem sidesR_small (old : List UInt8) (ho : old.length = 32) : ∀ (r : List (List UInt8)) (m n : Nat) (wh : Bool), (∀ x ∈ r, x.length = 32) → ∀ t ∈ (Dm.sidesR old m n wh r).1, t.length ≤ 10000
  | [], m, n, wh, _ => by
    intro t ht
    rw [show (Dm.sidesR old m n wh []).1 = [] from rfl] at ht
    cases ht
  | x :: r, m, n, wh, hr => by
    have hx := hr x (by simp)
    have hr' : ∀ z ∈ r, z.length = 32 := fun z hz => hr z (by simp [hz])
    unfold Dm.sidesR
    split
    · intro t ht; cases ht
    · split
      · intro t ht
        rcases List.mem_cons.1 ht with rfl | ht
        · rw [List.length_cons, List.length_append, Dm.sidesR_len old ho _ _ _ _ hr']; omega
        · exact sidesR_small old ho r _ _ _ hr' t ht
      · intro t ht
        rcases List.mem_cons.1 ht with rfl | ht
        · rw [List.length_cons, List.length_append, Dm.sidesR_len old ho _ _ _ _ hr']; omega
        · exact sidesR_small old ho r _ _ _ hr' t ht
/-- What VerifyExtension asks where it accepts. -/
theorem vex_true {old root : List UInt8} {m n : Int} {ps : List (List UInt8)} (h : vex old m root n ps = true) :
    0 ≤ m ∧ m ≤ n ∧ old.length = 32 ∧ Dm.digs ps = true ∧ (m = 0 → old = Dm.root []) ∧ (1 ≤ m → vexIn old root n.toNat m.toNat ps = true) := by
  unfold vex at h
  by_cases h1 : m < 0 ∨ n < m
  · rw [if_pos h1] at h; cases h
  rw [if_neg h1, Bool.and_eq_true, Bool.and_eq_true] at h
  obtain ⟨⟨hd1, hd2⟩, h2⟩ := h
  refine ⟨by omega, by omega, digs_get [old, root] hd1 0 (by simp), hd2, fun h0 => ?_, fun h0 => ?_⟩
  · rw [if_pos h0, Bool.and_eq_true] at h2
    simpa using h2.2
  · rw [if_neg (by omega)] at h2; exact h2
set_option maxRecDepth 100000 in
set_option maxHeartbeats 2000000 in
theorem extBinding_walk (a : ByteArray) (v1 : Value) (p : List (List UInt8)) (b : ByteArray) (v2 : Value) (q : List (List UInt8)) (m : Int) (root : ByteArray) (n : Int) (w : World) (ht : TabOk w)
    (ha : a.size ≤ maxLen) (hp : StrsA w v1 p) (hlp : ∀ s ∈ p, s.length ≤ maxLen) (hb : b.size ≤ maxLen) (hq : StrsA w v2 q) (hlq : ∀ s ∈ q, s.length ≤ maxLen)
    (_ : -9223372036854775808 ≤ m) (_ : m ≤ 9223372036854775807) (hr : root.size ≤ maxLen) (_ : -9223372036854775808 ≤ n) (hn2 : n ≤ 9223372036854775807) :
    Calls Tryd.prog 10 #[.string a, v1, .string b, v2, .int .i64 m, .string root, .int .i64 n] w (SanePost w) := by
  have c1 := sane_any w ht
  have c2 := fun u (hu : Below w.heap.size w u) => few_in v1 p 70 u (hp.next hu) hlp (by decide)
  have c3 := fun u (hu : Below w.heap.size w u) => few_in v2 q 70 u (hq.next hu) hlq (by decide)
  have hps := cut_small 70 p; have hqs := cut_small 70 q
  have hpl := cut_len 70 p; have hql := cut_len 70 q
  obtain ⟨P, hP⟩ : ∃ P, cut 70 p = P := ⟨_, rfl⟩
  obtain ⟨Q, hQ⟩ : ∃ Q, cut 70 q = Q := ⟨_, rfl⟩
  rw [hP] at c2 hps hpl; rw [hQ] at c3 hqs hql
  obtain ⟨x, hx⟩ : ∃ x, a.data.toList = x := ⟨_, rfl⟩
  obtain ⟨y, hy⟩ : ∃ y, b.data.toList = y := ⟨_, rfl⟩
  obtain ⟨r, hrr⟩ : ∃ r, root.data.toList = r := ⟨_, rfl⟩
  have hxb : bs x = a := by rw [← hx, bs_of]
  have hyb : bs y = b := by rw [← hy, bs_of]
  have hrb : bs r = root := by rw [← hrr, bs_of]
  have xl : x.length ≤ 9223372036854775807 := by rw [← bs_size, hxb]; unfold maxLen at ha; omega
  have yl : y.length ≤ 9223372036854775807 := by rw [← bs_size, hyb]; unfold maxLen at hb; omega
  have rl : r.length ≤ 9223372036854775807 := by rw [← bs_size, hrb]; unfold maxLen at hr; omega
  have T := fun u (hu : Below w.heap.size w u) => ht.next hu
  have C1 := Lib.hid c1; have C2 := Lib.hid c2; have C3 := Lib.hid c3; have TT := Lib.hid T
  have HPS := Lib.hid hps; have HQS := Lib.hid hqs; have HPL := Lib.hid hpl; have HQL := Lib.hid hql
  have HX := Lib.hid hxb; have HY := Lib.hid hyb; have HR := Lib.hid hrb
  unfold maxLen at ha hb hr
  clear c1 c2 c3 T hps hqs hpl hql hP hQ hx hy hrr hxb hyb hrb hp hq hlp hlq
  go_enter Tryd.func10, Tryd.ntmps10
  go_wp2_with fail
  refine C1.out.mono ?_
  rintro e w1 ⟨rfl, k1⟩
  have K1 := Lib.hid k1
  clear k1
  go_wp2_with fail
  refine (C2.out _ K1.out).mono ?_
  rintro e w2 ⟨pv, rfl, hpo, b2⟩
  have sp := strs_of_own hpo rfl
  have HSP := Lib.hid (fun u (hu : Below w2.heap.size w2 u) => sp.next hu)
  have K2 := Lib.hid (below_to K1.out b2)
  clear hpo b2 sp
  go_wp2_with fail
  refine (C3.out _ K2.out).mono ?_
  rintro e w3 ⟨qv, rfl, hqo, b3⟩
  have sq := strs_of_own hqo rfl
  have HSQ := Lib.hid (fun u (hu : Below w3.heap.size w3 u) => sq.next hu)
  have K3 := Lib.hid (below_to K2.out b3); have D3 := Lib.hid b3
  clear hqo b3 sq
  have v1c := vex_any x r n m pv P w3 (HSP.out _ D3.out) (fun s hs => by have := HPS.out s hs; omega) xl rl hn2 (TT.out _ K3.out)
  unfold strOf VexPost at v1c
  rw [HX.out, HR.out] at v1c
  have V1 := Lib.hid v1c
  clear v1c
  go_wp2_with fail
  refine V1.out.mono ?_
  rintro e w4 ⟨rfl, b4⟩
  have K4 := Lib.hid (below_to K3.out b4); have D4 := Lib.hid b4
  clear b4
  have v2c := vex_any y r n m qv Q w4 (HSQ.out _ D4.out) (fun s hs => by have := HQS.out s hs; omega) yl rl hn2 (TT.out _ K4.out)
  unfold strOf VexPost at v2c
  rw [HY.out, HR.out] at v2c
  have V2 := Lib.hid v2c
  clear v2c
  go_wp2_with fail
  refine V2.out.mono ?_
  rintro e w5 ⟨rfl, b5⟩
  have K5 := Lib.hid (below_to K4.out b5); have D5 := Lib.hid (below_to D4.out b5)
  clear b5
  obtain ⟨a1, ha1⟩ : ∃ a, vex x m r n P = a := ⟨_, rfl⟩
  obtain ⟨a2, ha2⟩ : ∃ a, vex y m r n Q = a := ⟨_, rfl⟩
  rw [ha1, ha2]
  have A1 := Lib.hid ha1; have A2 := Lib.hid ha2
  clear ha1 ha2
  cases a1 with
  | false =>
    go_wp2
    go_ret
    exact ⟨rfl, K5.out⟩
  | true =>
    cases a2 with
    | false =>
      go_wp2
      go_ret
      exact ⟨rfl, K5.out⟩
    | true =>
      by_cases hxy : x = y
      · have hXY : b = a := by rw [← HX.out, ← HY.out, hxy]
        subst hXY
        clear hxy
        go_wp2
        go_ret
        exact ⟨rfl, K5.out⟩
      · obtain ⟨f1, f2, f3, f4, f5, f6⟩ := vex_true A1.out
        obtain ⟨g1, g2, g3, g4, g5, g6⟩ := vex_true A2.out
        have hm1 : 1 ≤ m := by
          by_cases h0 : m = 0
          · exact absurd ((f5 h0).trans (g5 h0).symm) hxy
          · omega
        obtain ⟨N, hN⟩ := Int.eq_ofNat_of_zero_le (by omega : 0 ≤ n)
        obtain ⟨M, hM⟩ := Int.eq_ofNat_of_zero_le (by omega : 0 ≤ m)
        have hcol := Dm.ext_binding (by omega) (by omega) (by omega) f3 g3 f4 g4 (f6 hm1) (g6 hm1) hxy
        subst hN; subst hM
        rw [Int.toNat_natCast, Int.toNat_natCast] at hcol
        have hl1 : ∀ s ∈ P.reverse, s.length = 32 := fun s hs => Dm.digs_mem f4 s (List.mem_reverse.1 hs)
        have hl2 : ∀ s ∈ Q.reverse, s.length = 32 := fun s hs => Dm.digs_mem g4 s (List.mem_reverse.1 hs)
        have w1c := fun u (hu : Below w2.heap.size w2 u) => sides_at x f3 P.reverse M N true pv u (by rw [List.reverse_reverse]; exact HSP.out u hu) (by rw [List.length_reverse]; have := HPL.out; omega) hl1 (by omega) (by omega) (by omega)
        have w2c := fun u (hu : Below w3.heap.size w3 u) => sides_at y g3 Q.reverse M N true qv u (by rw [List.reverse_reverse]; exact HSQ.out u hu) (by rw [List.length_reverse]; have := HQL.out; omega) hl2 (by omega) (by omega) (by omega)
        have sx := sidesR_small x f3 P.reverse M N true hl1
        have sy := sidesR_small y g3 Q.reverse M N true hl2
        obtain ⟨wp, hwp⟩ : ∃ a, Dm.sidesR x M N true P.reverse = a := ⟨_, rfl⟩
        obtain ⟨wq, hwq⟩ : ∃ a, Dm.sidesR y M N true Q.reverse = a := ⟨_, rfl⟩
        rw [hwp] at w1c hcol sx; rw [hwq] at w2c hcol sy
        unfold WayOut strOf at w1c w2c
        rw [HX.out] at w1c; rw [HY.out] at w2c
        have hXY : (a.toList == b.toList) = false := by rw [← HX.out, ← HY.out, bs_eqb]; simpa using hxy
        have W1 := Lib.hid w1c; have W2 := Lib.hid w2c; have HCOL := Lib.hid hcol; have SX := Lib.hid sx; have SY := Lib.hid sy
        clear w1c w2c hcol hwp hwq hxy sx sy hl1 hl2 f1 f2 f3 f4 f5 f6 g1 g2 g3 g4 g5 g6
        go_wp2_with fail
        refine (W1.out _ (below_to D3.out D5.out) (TT.out _ K5.out)).mono ?_
        rintro e w6 ⟨av, rfl, hao, b6⟩
        have sa := strs_of_own hao rfl
        have HSA := Lib.hid (fun u (hu : Below w6.heap.size w6 u) => sa.next hu)
        have K6 := Lib.hid (below_to K5.out b6); have D6 := Lib.hid (below_to D5.out b6)
        clear hao b6 sa
        go_wp2_with fail
        refine (W2.out _ D6.out (TT.out _ K6.out)).mono ?_
        rintro e w7 ⟨bv, rfl, hbo, b7⟩
        have sb := strs_of_own hbo rfl
        have K7 := Lib.hid (below_to K6.out b7)
        have CC := Lib.hid (HCOL.out ▸ col_any av bv wp.1 wq.1 w7 (HSA.out _ b7) sb SX.out SY.out (TT.out _ K7.out))
        clear hbo b7 sb
        go_wp2_with fail
        refine CC.out.mono ?_
        rintro e w8 ⟨rfl, b8⟩
        have K8 := Lib.hid (below_to K7.out b8)
        clear b8
        go_wp2_with fail
        go_ret
        exact ⟨rfl, K8.out⟩
end Go.Proofs.YtgindihjdnppiaaDoor
