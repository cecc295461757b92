/- The walk of DigestExtensionAccepted: it returns true for every input. -/
import Derived.Test.YtnbhhhbmeafkaaaDoorL1
namespace Go.Proofs.YtnbhhhbmeafkaaaDoor
open Go.RowKit

/-- What Extension returns within the range. -/
def extO (ps : List (List UInt8)) (m : Nat) : List (List UInt8) := if m = 0 then [] else extRow ps m
def TupOwn (ps : List (List UInt8)) (w : World) (e : Ending) (w' : World) : Prop :=
  ∃ r, e = .returned (.tuple #[r, .int .i64 0]) ∧ w'.ownsRow w.heap.size 9 1 r ps.length (strCells ps) ∧ Below w.heap.size w w'
theorem ext_ok (ps : List (List UInt8)) (m : Nat) (v : Value) (w : World) (hv : Strs w w.heap.size v ps) (hl : ∀ s ∈ ps, s.length ≤ 1000) (hm : m ≤ ps.length) (hn : ps.length ≤ 1000000) (ht : TabOk w) :
    Calls Tryd.prog 24 #[v, .int .i64 (m : Int)] w (TupOwn (extO ps m) w) := by
  by_cases h0 : m = 0
  · subst h0
    obtain ⟨A, c, rfl, _⟩ := hv
    exact (ext_zero A _ c w).mono fun e w' ⟨h1, h2⟩ => ⟨_, h1, World.ownsRow_nil _ _ _ _, by subst h2; exact Below.refl _ _⟩
  · unfold extO
    rw [if_neg h0]
    exact ext_in ps m v w hv hl hm (by omega) hn ht
theorem extO_len (ps : List (List UInt8)) (m : Nat) (hm : m ≤ ps.length) : (extO ps m).length ≤ 2 * Dm.bin ps.length := by
  unfold extO
  split
  · simp
  · exact ext_len ps m (by omega)
theorem extO_small (ps : List (List UInt8)) (m : Nat) : ∀ s ∈ extO ps m, s.length ≤ 1000 := by
  unfold extO
  split
  · intro s hs; cases hs
  · intro s hs; have := Dm.digs_mem (ext_digs ps m) s hs; omega
theorem strs_pre {w : World} {B n c k : Nat} {A : Option Addr} {ps : List (List UInt8)} (h : Strs w B (.slice A n c) ps) (hk : k ≤ ps.length) : Strs w B (.slice A k c) (ps.take k) := by
  obtain ⟨A', c', e, h1, h2, h3⟩ := h
  injection e with e1 e2 e3
  subst e1; subst e2; subst e3
  refine ⟨_, c, by rw [List.length_take, Nat.min_eq_left hk], by rw [List.length_take]; omega, h2, ?_⟩
  rcases h3 with ⟨h3, h4⟩ | ⟨g', off', h3, hg, hc⟩
  · exact .inl ⟨h3, by rw [h4]; simp⟩
  · refine .inr ⟨g', off', h3, hg, fun j s hj => ?_⟩
    have hjk : j < k := by have := (List.getElem?_eq_some_iff.1 hj).1; rw [List.length_take] at this; omega
    rw [List.getElem?_take_of_lt hjk] at hj
    exact hc j s hj

set_option maxRecDepth 100000 in
set_option maxHeartbeats 4000000 in
theorem extAccepted_walk (v1 : Value) (p : List (List UInt8)) (m : Int) (w : World) (ht : TabOk w)
    (hp : StrsA w v1 p) (hlp : ∀ s ∈ p, s.length ≤ maxLen) (hm1 : -9223372036854775808 ≤ m) (hm2 : m ≤ 9223372036854775807) :
    Calls Tryd.prog 7 #[v1, .int .i64 m] w (SanePost w) := by
  have c1 := sane_any w ht
  have c2 := fun u (hu : Below w.heap.size w u) => few_in v1 p 25 u (hp.next hu) hlp (by decide)
  have hps := cut_small 25 p
  have hpl := cut_len 25 p
  obtain ⟨P, hP⟩ : ∃ P, cut 25 p = P := ⟨_, rfl⟩
  rw [hP] at c2 hps hpl
  have T := fun u (hu : Below w.heap.size w u) => ht.next hu
  have hpn : P.length ≤ 25 := by omega
  have C1 := Lib.hid c1; have C2 := Lib.hid c2; have TT := Lib.hid T
  have HPS := Lib.hid (show ∀ s ∈ P, s.length ≤ 1000 from fun s hs => by have := hps s hs; omega)
  obtain ⟨N, hN⟩ : ∃ N, P.length = N := ⟨_, rfl⟩
  rw [hN] at hpn
  have HN := Lib.hid hN
  obtain ⟨R, hR⟩ : ∃ R, bs (Dm.root P) = R := ⟨_, rfl⟩
  have HR := Lib.hid hR
  clear c1 c2 T hps hpl hP hp hlp hN hR
  have hbb : Dm.bin N ≤ 5 := by
    unfold Dm.bin
    split
    · omega
    · have : Nat.log2 N < 5 := (Nat.log2_lt (by omega)).2 (by omega)
      omega
  go_enter Tryd.func7, Tryd.ntmps7
  go_wp2_with fail
  refine C1.out.mono ?_
  rintro e w1 ⟨rfl, k1⟩
  have K1 := Lib.hid k1
  clear k1
  go_wp2_with fail
  refine (C2.out _ K1.out).mono ?_
  rintro e w2 ⟨pv, rfl, hpo, b2⟩
  have sp := strs_of_own hpo rfl
  obtain ⟨A, c, rfl, hc1, hc2, hA⟩ := sp
  have hc1' := hc1
  rw [HN.out] at hc1'
  unfold maxLen at hc2
  have HSP := Lib.hid (fun u (hu : Below w2.heap.size w2 u) => Strs.next (show Strs w2 w2.heap.size (.slice A N c) P from ⟨A, c, by rw [HN.out], hc1, hc2, hA⟩) hu)
  have K2 := Lib.hid (below_to K1.out b2)
  rw [HN.out]
  clear hpo b2 hA hc1
  have rc := root_any (.slice A N c) P w2 (HSP.out _ (Below.refl _ _)) HPS.out (TT.out _ K2.out)
  unfold strOf at rc
  rw [HR.out] at rc
  have RC := Lib.hid rc
  clear rc
  go_wp2_with fail
  refine RC.out.mono ?_
  rintro e w3 ⟨rfl, b3⟩
  have K3 := Lib.hid (below_to K2.out b3); have D3 := Lib.hid b3
  clear b3
  go_wp2_with fail
  go_loopw [7, 8, 9] (fun i _ _ wr => ∃ k : Nat, k ≤ N + 1 ∧ i = .int .i64 (k : Int) ∧ Below w2.heap.size w2 wr) (fun i _ _ _ => N + 1 - (intOf i).toNat)
  case atStart => exact ⟨0, by omega, rfl, D3.out⟩
  case round =>
    obtain ⟨k, hk, rfl, hbw⟩ := hrel
    have HBW := Lib.hid hbw
    have KW := Lib.hid (below_to K2.out hbw)
    clear hbw
    by_cases hlt : k ≤ N
    · have hext := ext_ok P k (.slice A N c) wr (HSP.out _ HBW.out) HPS.out (by have := HN.out; omega) (by have := HN.out; omega) (TT.out _ KW.out)
      have hxl := extO_len P k (by have := HN.out; omega)
      have hxs := extO_small P k
      have hvx := vex_of P k (by have := HN.out; omega) (by have := HN.out; omega)
      rw [show (if k = 0 then [] else extRow P k) = extO P k from rfl] at hvx
      have hrk := fun u (hu : Below w2.heap.size w2 u) => root_any (.slice A k c) (P.take k) u (strs_pre (HSP.out u hu) (by have := HN.out; omega)) (fun s hs => HPS.out s (List.mem_of_mem_take hs)) (TT.out _ (below_to K2.out hu))
      have hrl : (Dm.root (P.take k)).length = 32 := Dm.root_len _
      have hr2 : (Dm.root P).length = 32 := Dm.root_len _
      obtain ⟨X, hX⟩ : ∃ X, extO P k = X := ⟨_, rfl⟩
      rw [hX] at hext hxl hxs hvx
      rw [HN.out] at hxl hvx
      have hve := fun xv u (hx : Strs u u.heap.size xv X) (hu : Below w2.heap.size w2 u) => hvx ▸ vex_any (Dm.root (P.take k)) (Dm.root P) N k xv X u hx hxs (by omega) (by omega) (by omega) (TT.out _ (below_to K2.out hu))
      obtain ⟨Rk, hRk⟩ : ∃ R, bs (Dm.root (P.take k)) = R := ⟨_, rfl⟩
      unfold strOf at hrk hve
      rw [hRk] at hrk hve
      rw [HR.out] at hve
      have HE := Lib.hid hext; have HV := Lib.hid hve; have HK := Lib.hid hrk; have HB := Lib.hid (fun w => binary_any N w (by omega))
      obtain ⟨y, hy⟩ : ∃ y, X.length = y := ⟨_, rfl⟩
      have HY := Lib.hid hy
      rw [hy] at hxl
      obtain ⟨b, hb⟩ : ∃ b, Dm.bin N = b := ⟨_, rfl⟩
      rw [hb] at hxl hbb HB
      clear hext hve hrk hrl hr2 hX hRk hy hxs hvx hb
      have j1 : (k : Int) ≤ (N : Int) := by omega
      have j2 : (0 : Int) ≤ (k : Int) := by omega
      have j3 : (k : Int) ≤ (c : Int) := by omega
      have j4 : decide (2 * (b : Int) < (y : Int)) = false := by simp; omega
      go_wp2_with fail
      refine HE.out.mono ?_
      unfold TupOwn
      rintro e w4 ⟨xv, rfl, hxo, b4⟩
      have sx := strs_of_own hxo rfl
      obtain ⟨Ax, cx, rfl⟩ := own_slice hxo
      rw [HY.out] at sx
      rw [HY.out]
      have HSX := Lib.hid (fun u (hu : Below w4.heap.size w4 u) => sx.next hu)
      have D4 := Lib.hid (below_to HBW.out b4)
      clear hxo b4 sx
      go_wp2_with fail
      refine (HB.out _).mono ?_
      rintro e w' ⟨rfl, rfl⟩
      go_wp2_with fail
      refine (HK.out _ D4.out).mono ?_
      rintro e w5 ⟨rfl, b5⟩
      have D5 := Lib.hid (below_to D4.out b5)
      have HX5 := Lib.hid (HSX.out _ b5)
      clear b5
      go_wp2_with fail
      refine (HV.out _ _ HX5.out D5.out).mono ?_
      unfold VexPost
      rintro e w6 ⟨rfl, b6⟩
      have D6 := Lib.hid (below_to D5.out b6)
      clear b6
      go_wp2_with fail
      go_roundw
      case rel => exact ⟨k + 1, by omega, by go_num, D6.out⟩
      case measure => simp [intOf]; omega
    · have hd : decide (k ≤ N) = false := by simpa using hlt
      by_cases hin : 0 ≤ m ∧ m ≤ (N : Int)
      · obtain ⟨M, hM⟩ := Int.eq_ofNat_of_zero_le hin.1
        subst hM
        have hext := ext_ok P M (.slice A N c) wr (HSP.out _ HBW.out) HPS.out (by have := HN.out; omega) (by have := HN.out; omega) (TT.out _ KW.out)
        have HE := Lib.hid hext
        have j1 : (0 : Int) ≤ (M : Int) := by omega
        have j2 : (M : Int) ≤ (N : Int) := by omega
        clear hext hin
        go_wp2_with fail
        refine HE.out.mono ?_
        unfold TupOwn
        rintro e w4 ⟨xv, rfl, hxo, b4⟩
        have K4 := Lib.hid (below_to KW.out b4)
        clear hxo b4
        go_wp2_with fail
        go_ret
        exact ⟨rfl, K4.out⟩
      · have hext := ext_err m A N c wr (by omega)
        have hr2 : (Dm.root P).length = 32 := Dm.root_len _
        have hvx : vex (Dm.root P) m (Dm.root P) (N : Int) [] = false := by unfold vex; rw [if_pos (by omega)]
        have hve := hvx ▸ vex_any (Dm.root P) (Dm.root P) N m (.slice none 0 0) [] wr ⟨none, 0, rfl, Nat.le_refl _, by decide, .inl ⟨rfl, rfl⟩⟩ (fun _ h => by cases h) (by omega) (by omega) (by omega) (TT.out _ KW.out)
        unfold strOf at hve
        rw [HR.out] at hve
        have HE := Lib.hid hext; have HV := Lib.hid hve
        clear hext hve hr2 hvx
        by_cases hm0 : 0 ≤ m
        · have hmn : decide (m ≤ (N : Int)) = false := by simp; omega
          clear hin
          go_wp2_with fail
          refine HE.out.mono ?_
          rintro e w4 ⟨rfl, rfl⟩
          go_wp2_with fail
          refine HV.out.mono ?_
          unfold VexPost
          rintro e w5 ⟨rfl, b5⟩
          have K5 := Lib.hid (below_to KW.out b5)
          clear b5
          go_wp2_with fail
          go_ret
          exact ⟨rfl, K5.out⟩
        · have hmn : decide (0 ≤ m) = false := by simpa using hm0
          clear hin
          go_wp2_with fail
          refine HE.out.mono ?_
          rintro e w4 ⟨rfl, rfl⟩
          go_wp2_with fail
          refine HV.out.mono ?_
          unfold VexPost
          rintro e w5 ⟨rfl, b5⟩
          have K5 := Lib.hid (below_to KW.out b5)
          clear b5
          go_wp2_with fail
          go_ret
          exact ⟨rfl, K5.out⟩
end Go.Proofs.YtnbhhhbmeafkaaaDoor
