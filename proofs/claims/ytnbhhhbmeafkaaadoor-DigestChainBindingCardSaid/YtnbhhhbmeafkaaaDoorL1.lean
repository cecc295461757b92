/- The walk of DigestBinding: it returns true for every input. -/
import Derived.Test.YtnbhhhbmeafkaaaDoorE9
import Derived.Test.YtnbhhhbmeafkaaaDoorE6
import Derived.Test.YtnbhhhbmeafkaaaDoorE4
namespace Go.Proofs.YtnbhhhbmeafkaaaDoor
open Go.RowKit

theorem str_cut (s : ByteArray) (n : Int) (h : n = min (s.size : Int) 60) : s.extract 0 n.toNat = bs (s.data.toList.take 60) := by
  have := bs_cut s.data.toList n.toNat (by subst h; simp; omega)
  rw [bs_of] at this; exact this
theorem str_cut_len (s : ByteArray) : (s.data.toList.take 60).length ≤ 60 := by rw [List.length_take]; omega
theorem below_to {w w1 w2 : World} (h1 : Below w.heap.size w w1) (h2 : Below w1.heap.size w1 w2) : Below w.heap.size w w2 := h1.trans (h2.mono h1.size)

set_option maxRecDepth 100000 in
set_option maxHeartbeats 2000000 in
theorem binding_walk (root : ByteArray) (n i : Int) (s : ByteArray) (v1 : Value) (p : List (List UInt8)) (t : ByteArray) (v2 : Value) (q : List (List UInt8)) (w : World) (ht : TabOk w)
    (_ : root.size ≤ maxLen) (_ : -9223372036854775808 ≤ n) (hn2 : n ≤ 9223372036854775807) (_ : -9223372036854775808 ≤ i) (_ : i ≤ 9223372036854775807) (hs : s.size ≤ maxLen)
    (hp : StrsA w v1 p) (hlp : ∀ s ∈ p, s.length ≤ maxLen) (hts : t.size ≤ maxLen) (hq : StrsA w v2 q) (hlq : ∀ s ∈ q, s.length ≤ maxLen) :
    Calls Tryd.prog 8 #[.string root, .int .i64 n, .int .i64 i, .string s, v1, .string t, v2] w (SanePost w) := by
  have c1 := sane_any w ht
  have c2 := fun u (hu : Below w.heap.size w u) => few_in v1 p 70 u (hp.next hu) hlp (by decide)
  have c3 := fun u (hu : Below w.heap.size w u) => few_in v2 q 70 u (hq.next hu) hlq (by decide)
  have hps := cut_small 70 p; have hqs := cut_small 70 q
  have hpl := cut_len 70 p; have hql := cut_len 70 q
  have hb := fun (h1 : vfy root.data.toList n i (s.data.toList.take 60) (cut 70 p) = true) (h2 : vfy root.data.toList n i (t.data.toList.take 60) (cut 70 q) = true) (hst : s.data.toList.take 60 ≠ t.data.toList.take 60) => Dm.binding (by omega) h1 h2 hst
  obtain ⟨P, hP⟩ : ∃ P, cut 70 p = P := ⟨_, rfl⟩
  obtain ⟨Q, hQ⟩ : ∃ Q, cut 70 q = Q := ⟨_, rfl⟩
  rw [hP] at c2 hps hpl hb; rw [hQ] at c3 hqs hql hb
  have e1 := str_cut s _ rfl
  have e2 := str_cut t _ rfl
  have l1 := str_cut_len s; have l2 := str_cut_len t
  obtain ⟨x, hx⟩ : ∃ x, s.data.toList.take 60 = x := ⟨_, rfl⟩
  obtain ⟨y, hy⟩ : ∃ y, t.data.toList.take 60 = y := ⟨_, rfl⟩
  obtain ⟨r, hr⟩ : ∃ r, root.data.toList = r := ⟨_, rfl⟩
  have hrb : root = bs r := by rw [← hr, bs_of]
  rw [hx] at e1 l1 hb; rw [hy] at e2 l2 hb; rw [hr] at hb
  subst hrb
  have T := fun u (hu : Below w.heap.size w u) => ht.next hu
  have C1 := Lib.hid c1; have C2 := Lib.hid c2; have C3 := Lib.hid c3; have HB := Lib.hid hb; have TT := Lib.hid T
  have HPS := Lib.hid hps; have HQS := Lib.hid hqs; have HPL := Lib.hid hpl; have HQL := Lib.hid hql
  unfold maxLen at hs hts
  have m0 : (0 : Int) ≤ min (s.size : Int) 60 := by omega
  have m1 : min (s.size : Int) 60 ≤ (s.size : Int) := by omega
  have m2 : (0 : Int) ≤ min (t.size : Int) 60 := by omega
  have m3 : min (t.size : Int) 60 ≤ (t.size : Int) := by omega
  obtain ⟨X, hX⟩ : ∃ X, bs x = X := ⟨_, rfl⟩
  obtain ⟨Y, hY⟩ : ∃ Y, bs y = Y := ⟨_, rfl⟩
  rw [hX] at e1; rw [hY] at e2
  have HX := Lib.hid hX; have HY := Lib.hid hY
  clear c1 c2 c3 hb T hps hqs hpl hql hP hQ hx hy hr hX hY hp hq hlp hlq
  go_enter Tryd.func8, Tryd.ntmps8
  go_wp2_with fail
  refine C1.out.mono ?_
  rintro e w1 ⟨rfl, k1⟩
  have K1 := Lib.hid k1
  clear k1
  go_wp2_with fail
  refine (C2.out _ K1.out).mono ?_
  rintro e w2 ⟨pv, rfl, hpo, b2⟩
  have sp := strs_of_own hpo rfl
  have HSP := Lib.hid (fun u (hu : Below w2.heap.size w2 u) => sp.next hu)
  have K2 := Lib.hid (below_to K1.out b2)
  clear hpo b2 sp
  go_wp2_with fail
  refine (C3.out _ K2.out).mono ?_
  rintro e w3 ⟨qv, rfl, hqo, b3⟩
  have sq := strs_of_own hqo rfl
  have HSQ := Lib.hid (fun u (hu : Below w3.heap.size w3 u) => sq.next hu)
  have K3 := Lib.hid (below_to K2.out b3); have D3 := Lib.hid b3
  clear hqo b3 sq
  have v1c := vfy_any r x n i pv P w3 (HSP.out _ D3.out) (fun s hs => by have := HPS.out s hs; omega) (by omega) hn2 (TT.out _ K3.out)
  unfold strOf at v1c
  rw [HX.out] at v1c
  have V1 := Lib.hid v1c
  clear v1c
  go_wp2_with fail
  refine V1.out.mono ?_
  rintro e w4 ⟨rfl, b4⟩
  have K4 := Lib.hid (below_to K3.out b4); have D4 := Lib.hid b4
  clear b4
  have v2c := vfy_any r y n i qv Q w4 (HSQ.out _ D4.out) (fun s hs => by have := HQS.out s hs; omega) (by omega) hn2 (TT.out _ K4.out)
  unfold strOf at v2c
  rw [HY.out] at v2c
  have V2 := Lib.hid v2c
  clear v2c
  go_wp2_with fail
  refine V2.out.mono ?_
  rintro e w5 ⟨rfl, b5⟩
  have K5 := Lib.hid (below_to K4.out b5); have D5 := Lib.hid (below_to D4.out b5)
  clear b5
  obtain ⟨a1, ha1⟩ : ∃ a, vfy r n i x P = a := ⟨_, rfl⟩
  obtain ⟨a2, ha2⟩ : ∃ a, vfy r n i y Q = a := ⟨_, rfl⟩
  rw [ha1, ha2]
  have A1 := Lib.hid ha1; have A2 := Lib.hid ha2
  clear ha1 ha2
  cases a1 with
  | false =>
    go_wp2
    go_ret
    exact ⟨rfl, K5.out⟩
  | true =>
    cases a2 with
    | false =>
      go_wp2
      go_ret
      exact ⟨rfl, K5.out⟩
    | true =>
      by_cases hxy : x = y
      · have hXY : Y = X := by rw [← HX.out, ← HY.out, hxy]
        rw [hXY]
        clear hxy hXY
        go_wp2
        go_ret
        exact ⟨rfl, K5.out⟩
      · have hin : ¬ (i < 0 ∨ n ≤ i) := fun h => by have := A1.out; unfold vfy at this; rw [if_pos h] at this; cases this
        obtain ⟨N, hN⟩ := Int.eq_ofNat_of_zero_le (by omega : 0 ≤ n)
        obtain ⟨I, hI⟩ := Int.eq_ofNat_of_zero_le (by omega : 0 ≤ i)
        have hcol := HB.out A1.out A2.out hxy
        subst hN; subst hI
        rw [Int.toNat_natCast, Int.toNat_natCast] at hcol
        have hl1 := fun s hs => HPS.out s (List.mem_reverse.1 hs); have hl2 := fun s hs => HQS.out s (List.mem_reverse.1 hs)
        have w1c := fun u (hu : Below w2.heap.size w2 u) => way_at x (by omega) P.reverse N I pv u (by rw [List.reverse_reverse]; exact HSP.out u hu) (by rw [List.length_reverse]; have := HPL.out; omega) (fun s hs => by have := hl1 s hs; omega) (by omega) (by omega)
        have w2c := fun u (hu : Below w3.heap.size w3 u) => way_at y (by omega) Q.reverse N I qv u (by rw [List.reverse_reverse]; exact HSQ.out u hu) (by rw [List.length_reverse]; have := HQL.out; omega) (fun s hs => by have := hl2 s hs; omega) (by omega) (by omega)
        have sx := wayR_small x P.reverse N I (by omega) (fun s hs => by have := hl1 s hs; omega)
        have sy := wayR_small y Q.reverse N I (by omega) (fun s hs => by have := hl2 s hs; omega)
        obtain ⟨wp, hwp⟩ : ∃ a, Dm.wayR x N I P.reverse = a := ⟨_, rfl⟩
        obtain ⟨wq, hwq⟩ : ∃ a, Dm.wayR y N I Q.reverse = a := ⟨_, rfl⟩
        rw [hwp] at w1c hcol sx; rw [hwq] at w2c hcol sy
        unfold WayOut strOf at w1c w2c
        rw [HX.out] at w1c; rw [HY.out] at w2c
        have hXY : (X.toList == Y.toList) = false := by rw [← HX.out, ← HY.out, bs_eqb]; simpa using hxy
        have W1 := Lib.hid w1c; have W2 := Lib.hid w2c; have HCOL := Lib.hid hcol; have SX := Lib.hid sx; have SY := Lib.hid sy
        clear w1c w2c hcol hwp hwq hxy hin sx sy hl1 hl2
        go_wp2_with fail
        refine (W1.out _ (below_to D3.out D5.out) (TT.out _ K5.out)).mono ?_
        rintro e w6 ⟨av, rfl, hao, b6⟩
        have sa := strs_of_own hao rfl
        have HSA := Lib.hid (fun u (hu : Below w6.heap.size w6 u) => sa.next hu)
        have K6 := Lib.hid (below_to K5.out b6); have D6 := Lib.hid (below_to D5.out b6)
        clear hao b6 sa
        go_wp2_with fail
        refine (W2.out _ D6.out (TT.out _ K6.out)).mono ?_
        rintro e w7 ⟨bv, rfl, hbo, b7⟩
        have sb := strs_of_own hbo rfl
        have K7 := Lib.hid (below_to K6.out b7)
        have CC := Lib.hid (HCOL.out ▸ col_any av bv wp.1 wq.1 w7 (HSA.out _ b7) sb SX.out SY.out (TT.out _ K7.out))
        clear hbo b7 sb
        go_wp2_with fail
        refine CC.out.mono ?_
        rintro e w8 ⟨rfl, b8⟩
        have K8 := Lib.hid (below_to K7.out b8)
        clear b8
        go_wp2_with fail
        go_ret
        exact ⟨rfl, K8.out⟩
end Go.Proofs.YtnbhhhbmeafkaaaDoor
